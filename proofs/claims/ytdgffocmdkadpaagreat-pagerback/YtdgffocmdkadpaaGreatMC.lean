/- What the statements' changes makes. Sizes of sectors, and what pages have behind a commit, in plain mathematics. -/
import Derived.Test.YtdgffocmdkadpaaGreatJD
import Derived.Test.YtdgffocmdkadpaaGreatJS
namespace Go.Proofs.YtdgffocmdkadpaaGreat
open Go.RowKit Go.Shelf
def chiV (l : List Chi) : List Value := l.flatMap fun c => [.int .i64 c.1, .string c.2]
theorem chiV_snoc (l : List Chi) (c : Chi) : chiV (l ++ [c]) = chiV l ++ [.int .i64 c.1, .string c.2] := by simp [chiV]
theorem chiV_at (l : List Chi) (i : Nat) (q : Chi) (h : l[i]? = some q) : (chiV l)[2 * i]? = some (.int .i64 q.1) ∧ (chiV l)[2 * i + 1]? = some (.string q.2) := by
  induction l generalizing i with
  | nil => simp at h
  | cons p l ih =>
    cases i with
    | zero =>
      simp only [List.getElem?_cons_zero, Option.some.injEq] at h
      subst h
      exact ⟨rfl, rfl⟩
    | succ i =>
      simp only [List.getElem?_cons_succ] at h
      have := ih i h
      have e : chiV (p :: l) = .int .i64 p.1 :: .string p.2 :: chiV l := rfl
      rw [e, show 2 * (i + 1) = 2 * i + 1 + 1 by omega, show 2 * i + 1 + 1 + 1 = (2 * i + 1) + 1 + 1 by omega]
      simpa using this
theorem chiV_one (l : List Chi) : ∀ u ∈ chiV l, u.oneCell' = true := by
  intro u hu
  simp only [chiV, List.mem_flatMap, List.mem_cons, List.not_mem_nil, or_false] at hu
  obtain ⟨x, _, rfl | rfl⟩ := hu <;> rfl
theorem chiV_len (l : List Chi) : (chiV l).length = l.length * 2 := by
  induction l with
  | nil => rfl
  | cons p l ih =>
    show (.int .i64 p.1 :: .string p.2 :: chiV l : List Value).length = _
    rw [List.length_cons, List.length_cons, ih, List.length_cons]
    omega
theorem Ci.own {w : World} {base e : Nat} {a : Option Addr} {len cap : Nat} {l : List Chi} (h : w.ownsRow base e 2 (.slice a len cap) len (chiV l)) (hl : l.length = len) : Ci w a len cap l := by
  rcases h.2 with ⟨h2, h3⟩ | ⟨g', cap', cur, e, hb, hr, h3, h4, h5, h6⟩
  · cases h2
    exact ⟨hl, Nat.le_refl _, by omega, by omega⟩
  · cases e
    refine ⟨hl, h3, by unfold maxLen at h4; omega, fun h0 => ⟨g', 0, rfl, lt_of_some hr, fun i hi => ?_⟩⟩
    obtain ⟨e1, e2⟩ := chiV_at l i l[i] (List.getElem?_eq_getElem hi)
    have c1 := own_at h e1
    have c2 := own_at h e2
    rw [show 0 + i * 2 = 2 * i by omega]
    exact ⟨c1, c2⟩
theorem own_ne {W : World} {b1 e1 s1 n1 b2 e2 s2 n2 : Nat} {v1 v2 : Value} {x1 x2 : List Value} (h1 : W.ownsRow b1 e1 s1 v1 n1 x1) (h2 : W.ownsRow b2 e2 s2 v2 n2 x2) (hne : e1 ≠ e2) : ∀ x, v2.ownBlock = some x → some x ≠ v1.ownBlock := by
  intro x hx e
  rcases h1.2 with ⟨rfl, _⟩ | ⟨g1, _, _, rfl, _, hr1, _⟩
  · cases e
  · rcases h2.2 with ⟨rfl, _⟩ | ⟨g2, _, _, rfl, _, hr2, _⟩
    · cases hx
    · cases hx
      cases e
      rw [hr1] at hr2
      cases hr2
      exact hne rfl
end Go.Proofs.YtdgffocmdkadpaaGreat
namespace Go.Proofs.YtdgffocmdkadpaaGreat
/-- All sectors have 256 bytes, there for good or waiting. -/
structure Dk.Sz (D : Dk) : Prop where
  k : ∀ s ∈ D.kept, s.size = 256
  q : ∀ q ∈ D.waits, q.2.size = 256
theorem upTo_sz (K : List ByteArray) (p : Nat → Bool) (ws : List Wt) (hK : ∀ s ∈ K, s.size = 256) (hw : ∀ q ∈ ws, q.2.size = 256) (k : Nat) : ∀ s ∈ upTo K p ws k, s.size = 256 := by
  induction k with
  | zero => exact hK
  | succ k ih =>
    intro s hs
    simp only [upTo] at hs
    split at hs
    · rename_i q hq
      split at hs
      · rcases List.mem_or_eq_of_mem_set hs with h | h
        · exact ih s h
        · rw [h]; exact hw q (List.mem_of_getElem? hq)
      · exact ih s hs
    · exact ih s hs
theorem Dk.Sz.settled {D : Dk} (h : D.Sz) (p : Nat → Bool) : (D.settled p).Sz := ⟨upTo_sz _ _ _ h.k h.q _, fun q hq => by simp [Dk.settled] at hq⟩
theorem Dk.Sz.failed {D : Dk} (h : D.Sz) (p : Nat → Bool) : (D.failed p).Sz := ⟨(h.settled p).k, (h.settled p).q⟩
theorem Dk.Sz.started {D : Dk} (h : D.Sz) : (D.started).Sz := ⟨h.k, h.q⟩
theorem Dk.Sz.fused {D : Dk} (h : D.Sz) (n : Nat) : (D.fused n).Sz := ⟨h.k, h.q⟩
theorem Dk.Sz.run {D : Dk} (h : D.Sz) (l : List Stp) (hl : ∀ q, some q ∈ l → q.2.size = 256) : (runS D l).Sz := by
  induction l generalizing D with
  | nil => exact h
  | cons s l ih =>
    simp only [runS]
    split
    · apply ih
      · cases s with
        | none => exact h.settled _
        | some q =>
          refine ⟨h.k, fun r hr => ?_⟩
          simp only [doS, Dk.wrote, List.mem_append, List.mem_singleton] at hr
          rcases hr with hr | rfl
          · exact h.q r hr
          · exact hl q (List.mem_cons_self ..)
      · intro q hq
        exact hl q (List.mem_cons_of_mem _ hq)
    · exact h
theorem Dk.Sz.seen {D : Dk} (h : D.Sz) : ∀ s ∈ D.seen, s.size = 256 := by
  have e : D.seen = upTo D.kept (fun _ => true) D.waits D.waits.length := (upTo_all _ _ _ (fun _ _ => rfl)).symm
  rw [e]
  exact upTo_sz _ _ _ h.k h.q _
theorem Dk.Sz.at {D : Dk} (h : D.Sz) (a : Nat) (ha : a < D.kept.length) : (at_ D.kept a).size = 256 := h.k _ (by
  unfold at_
  rw [List.getD_eq_getElem?_getD, List.getElem?_eq_getElem ha]
  exact List.getElem_mem _)
theorem nought0_size : nought0.size = 256 := by
  show (List.replicate 256 (0 : UInt8)).toArray.size = 256
  rw [List.size_toArray, List.length_replicate]
theorem layL_sz {f : Nat} {l : List Chg} (hl : ∀ c ∈ l, c.2.size = 1024) : ∀ q, some q ∈ layL f l → q.2.size = 256 := by
  intro q hq
  simp only [layL, List.mem_append, List.mem_map, List.mem_singleton, reduceCtorEq, or_false, Option.some.injEq, exists_eq_right] at hq
  obtain ⟨c, hc, j, hj, rfl⟩ := mem_layW hq
  exact sec_size _ _ (hl c hc) hj
theorem markL_sz {m : ByteArray} (hm : m.size = 256) : ∀ q, some q ∈ markL m → q.2.size = 256 := by
  intro q hq
  simp only [markL, List.mem_cons, List.not_mem_nil, or_false, reduceCtorEq, Option.some.injEq] at hq
  rw [hq]; exact hm
theorem finS_sz {n : Nat} {l : List Chg} (hl : ∀ c ∈ l, c.2.size = 1024) : ∀ q, some q ∈ finS n l → q.2.size = 256 := by
  intro q hq
  rcases List.mem_append.1 hq with h | h
  · exact layL_sz hl q h
  · exact markL_sz nought0_size q h
theorem commitS_sz {n : Nat} {l : List Chg} {m : ByteArray} (hl : ∀ c ∈ l, c.2.size = 1024) (hm : m.size = 256) : ∀ q, some q ∈ commitS n l m → q.2.size = 256 := by
  intro q hq
  rcases List.mem_append.1 hq with h | h
  · exact layL_sz hl q h
  · rcases List.mem_append.1 h with h | h
    · exact markL_sz hm q h
    · exact finS_sz hl q h
theorem sec_join (s : ByteArray) (hs : s.size = 1024) : sec s 0 ++ sec s 1 ++ sec s 2 ++ sec s 3 = s := by
  have hs' : s.data.size = 1024 := hs
  apply ByteArray.ext
  apply Array.ext'
  simp only [sec, ByteArray.data_append, ByteArray.data_extract, Array.toList_append, Array.toList_extract, List.extract_eq_take_drop]
  have hl : s.data.toList.length = 1024 := hs'
  generalize s.data.toList = L at *
  have e1 : (L.drop 0).take 256 = L.take 256 := by simp
  have e2 : L = L.take 256 ++ ((L.drop 256).take 256 ++ ((L.drop 512).take 256 ++ (L.drop 768).take 256)) := by
    have a1 := (List.take_append_drop 256 L).symm
    have a2 := (List.take_append_drop 256 (L.drop 256)).symm
    have a3 := (List.take_append_drop 256 (L.drop 512)).symm
    rw [List.drop_drop] at a2 a3
    have a4 : (L.drop 768).take 256 = L.drop 768 := List.take_of_length_le (by simp [hl])
    rw [a4, ← a3, ← a2, ← a1]
  conv => rhs; rw [e2]
  simp
/-- A page of which the sectors have what P says. -/
def pgP (P : Nat → ByteArray) (i : Nat) : ByteArray := P (4 * i) ++ P (4 * i + 1) ++ P (4 * i + 2) ++ P (4 * i + 3)
theorem page_rec {n : Nat} {K : List ByteArray} {P : Nat → ByteArray} (h : Rec n K P) (ht : Tidy n K) (i : Nat) (hi : i < n) : pageAt K (1 + 4 * n + 4 * i) = pgP P i := by
  unfold pageAt pgP
  rw [h.tidy ht (4 * i) (by omega) |> fun e => e, ← h.tidy ht (4 * i + 1) (by omega), ← h.tidy ht (4 * i + 2) (by omega), ← h.tidy ht (4 * i + 3) (by omega)]
  rfl
theorem pgP_old {P : Nat → ByteArray} {l : List Chg} {i : Nat} (h : ∀ c ∈ l, c.1 ≠ i) : pgP (newP P l) i = pgP P i := by
  unfold pgP
  rw [newP_none (k := 4 * i) (fun c hc e => h c hc (by omega)), newP_none (k := 4 * i + 1) (fun c hc e => h c hc (by omega)), newP_none (k := 4 * i + 2) (fun c hc e => h c hc (by omega)), newP_none (k := 4 * i + 3) (fun c hc e => h c hc (by omega))]
theorem pgP_new {P : Nat → ByteArray} {l : List Chg} (hd : l.Pairwise (fun a b => a.1 ≠ b.1)) {c : Chg} (hc : c ∈ l) (hs : c.2.size = 1024) : pgP (newP P l) c.1 = c.2 := by
  unfold pgP
  rw [newP_some hd hc (4 * c.1) (by omega), newP_some hd hc (4 * c.1 + 1) (by omega), newP_some hd hc (4 * c.1 + 2) (by omega), newP_some hd hc (4 * c.1 + 3) (by omega)]
  rw [show 4 * c.1 % 4 = 0 by omega, show (4 * c.1 + 1) % 4 = 1 by omega, show (4 * c.1 + 2) % 4 = 2 by omega, show (4 * c.1 + 3) % 4 = 3 by omega]
  exact sec_join _ hs
/-- A store that is whole, at rest. -/
structure Good (n : Nat) (D : Dk) : Prop where
  up : D.up = true
  fu : D.fuse = 0
  wt : D.waits = []
  ln : D.kept.length = 8 * n + 1
  sz : D.Sz
  td : Tidy n D.kept
theorem Good.seen {n : Nat} {D : Dk} (h : Good n D) : D.seen = D.kept := by
  unfold Dk.seen
  rw [h.wt]
  rfl
/-- What a store's pages have. -/
def ownP (n : Nat) (K : List ByteArray) : Nat → ByteArray := fun k => at_ K (1 + 4 * n + k)
theorem own_rec {n : Nat} {K : List ByteArray} (h : Tidy n K) : Rec n K (ownP n K) := by
  intro k hk
  unfold gd
  rw [h (k / 4) (by omega)]
  rfl
theorem new_tidy (n m : Nat) : Tidy n (Dk.new m nought0).kept := by
  intro i _
  have : at_ (Dk.new m nought0).kept 0 = nought0 ∨ at_ (Dk.new m nought0).kept 0 = ByteArray.empty := by
    unfold at_ Dk.new
    simp only
    rw [List.getD_eq_getElem?_getD, List.getElem?_replicate]
    split
    · exact .inl rfl
    · exact .inr rfl
  rcases this with e | e
  · rw [e]; exact tells_nought i
  · rw [e]
    unfold tells
    simp
theorem Good.new (n : Nat) : Good n (Dk.new (8 * n + 1) nought0) := by
  refine ⟨rfl, rfl, rfl, by simp [Dk.new], ⟨fun s hs => ?_, fun q hq => by simp [Dk.new] at hq⟩, new_tidy n _⟩
  simp only [Dk.new, List.mem_replicate] at hs
  rw [hs.2]; exact nought0_size
theorem told_tidy {n : Nat} {K : List ByteArray} (h : Tidy n K) : toldL n K = [] := by
  unfold toldL
  rw [List.filter_eq_nil_iff]
  intro i hi
  rw [h i (by simpa using hi)]
  simp
theorem rec_tidy {n : Nat} {K : List ByteArray} (h : Tidy n K) : recS n K = [] := by
  unfold recS
  rw [if_pos (told_tidy h)]
/-- Recovery, of whatever a failure left. -/
theorem rec_safe (n : Nat) (D : Dk) (P : Nat → ByteArray) (hu : D.up = true) (hw : D.waits = []) (hl : 8 * n + 1 ≤ D.kept.length) (hsz : D.Sz) (hr : Rec n D.kept P) :
    (codeS D (recS n D.kept) = 0 ∧ (runS D (recS n D.kept)).up = true ∧ (runS D (recS n D.kept)).waits = [] ∧ Tidy n (runS D (recS n D.kept)).kept ∧ Rec n (runS D (recS n D.kept)).kept P) ∨
      (codeS D (recS n D.kept) = 10 ∧ (runS D (recS n D.kept)).up = false ∧ ∀ p, Rec n (upTo (runS D (recS n D.kept)).kept p (runS D (recS n D.kept)).waits (runS D (recS n D.kept)).waits.length) P) := by
  unfold recS
  by_cases h0 : toldL n D.kept = []
  · rw [if_pos h0]
    refine .inl ⟨rfl, hu, hw, fun i hi => ?_, hr⟩
    unfold toldL at h0
    rw [List.filter_eq_nil_iff] at h0
    have := h0 i (by simpa using hi)
    show tells (at_ D.kept 0) i = false
    simpa using this
  · rw [if_neg h0]
    refine fin_safe n D (recL n D.kept) P hu hw hl hr (fun i hi => ?_) (fun c hc => ?_) (fun c hc j hj => ?_)
    · constructor
      · intro ht
        refine ⟨(i, pageAt D.kept (1 + 4 * i)), ?_, rfl⟩
        unfold recL toldL
        refine List.mem_map.2 ⟨i, List.mem_filter.2 ⟨by simpa using hi, ht⟩, rfl⟩
      · rintro ⟨c, hc, rfl⟩
        unfold recL toldL at hc
        obtain ⟨k, hk, rfl⟩ := List.mem_map.1 hc
        exact (List.mem_filter.1 hk).2
    · unfold recL toldL at hc
      obtain ⟨k, hk, rfl⟩ := List.mem_map.1 hc
      have := (List.mem_filter.1 hk).1
      simpa using this
    · unfold recL toldL at hc
      obtain ⟨k, hk, rfl⟩ := List.mem_map.1 hc
      obtain ⟨h1, h2⟩ := List.mem_filter.1 hk
      have hkn : k < n := by simpa using h1
      have hs4 : ∀ a, a < 4 → (at_ D.kept (1 + 4 * k + a)).size = 256 := fun a ha => hsz.at _ (by omega)
      obtain ⟨s0, s1, s2, s3⟩ := sec_page _ _ _ _ (hs4 0 (by omega)) (hs4 1 (by omega)) (hs4 2 (by omega)) (hs4 3 (by omega))
      have hP : at_ D.kept (1 + 4 * k + j) = P (4 * k + j) := by
        have := hr (4 * k + j) (by omega)
        unfold gd at this
        rw [show (4 * k + j) / 4 = k by omega, if_pos h2] at this
        rw [← this]
        congr 1
        omega
      simp only
      rw [← hP]
      match j, hj with
      | 0, _ => exact s0
      | 1, _ => exact s1
      | 2, _ => exact s2
      | 3, _ => exact s3
theorem filter_layL (f : Nat) (l : List Chg) : ((layL f l).filter Option.isSome).length = 4 * l.length := by
  unfold layL
  rw [List.filter_append, List.length_append]
  have e2 : (layW f l).length = 4 * l.length := by
    unfold layW
    induction l with
    | nil => rfl
    | cons c l ih =>
      rw [List.flatMap_cons, List.length_append, ih, List.length_cons]
      show 4 + _ = _
      omega
  have e1 : ((layW f l).map some).filter Option.isSome = (layW f l).map some := List.filter_eq_self.2 (fun x hx => by
    obtain ⟨q, _, rfl⟩ := List.mem_map.1 hx
    rfl)
  rw [e1, List.length_map, e2]
  rfl
theorem count_commit (n : Nat) (l : List Chg) (m : ByteArray) : ((commitS n l m).filter Option.isSome).length = 8 * l.length + 2 := by
  unfold commitS finS
  rw [List.filter_append, List.length_append, List.filter_append, List.length_append, List.filter_append, List.length_append, filter_layL, filter_layL]
  show 4 * l.length + (1 + (4 * l.length + 1)) = _
  omega
end Go.Proofs.YtdgffocmdkadpaaGreat
