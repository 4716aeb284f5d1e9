/- What a table's Commit writes, and what it leaves, in plain mathematics. -/
import Derived.Test.YtnafalkcgghjgaaGreatDoorSZ
import Derived.Test.YtnafalkcgghjgaaGreatDoorJP
namespace Go.Proofs.YtnafalkcgghjgaaGreatDoor
/-- A leaf's page, as it is to be. -/
def pgT (L : List Lf) (i : Nat) (x : Lf) : ByteArray := bytesOf (pageText x (nextOf L i))
/-- The changes of the first leaves. -/
def chU (P : Nat → ByteArray) (L : List Lf) : Nat → List Chi
  | 0 => []
  | i + 1 => chU P L i ++ (match L[i]? with
    | none => []
    | some x => if pgT L i x = P x.page.toNat then [] else [(x.page, pgT L i x)])
theorem chU_same {P : Nat → ByteArray} {L : List Lf} {i : Nat} {x : Lf} (h : L[i]? = some x) (e : pgT L i x = P x.page.toNat) : chU P L (i + 1) = chU P L i := by
  simp [chU, h, e]
theorem chU_new {P : Nat → ByteArray} {L : List Lf} {i : Nat} {x : Lf} (h : L[i]? = some x) (e : ¬ pgT L i x = P x.page.toNat) : chU P L (i + 1) = chU P L i ++ [(x.page, pgT L i x)] := by
  simp [chU, h, e]
theorem chU_mem {P : Nat → ByteArray} {L : List Lf} {c : Chi} : ∀ {i : Nat}, c ∈ chU P L i → ∃ k x, k < i ∧ L[k]? = some x ∧ ¬ pgT L k x = P x.page.toNat ∧ c = (x.page, pgT L k x)
  | 0, h => by simp [chU] at h
  | i + 1, h => by
    unfold chU at h
    rcases List.mem_append.1 h with h | h
    · obtain ⟨k, x, hk, r⟩ := chU_mem h
      exact ⟨k, x, by omega, r⟩
    · cases hx : L[i]? with
      | none => simp [hx] at h
      | some x =>
        rw [hx] at h
        simp only at h
        split at h
        · simp at h
        · rename_i hn
          rw [List.mem_singleton] at h
          exact ⟨i, x, by omega, hx, hn, h⟩
theorem chU_has {P : Nat → ByteArray} {L : List Lf} {k : Nat} {x : Lf} (hx : L[k]? = some x) (hn : ¬ pgT L k x = P x.page.toNat) : ∀ {i : Nat}, k < i → (x.page, pgT L k x) ∈ chU P L i
  | 0, h => by omega
  | i + 1, h => by
    by_cases hk : k = i
    · subst hk
      rw [chU_new hx hn]
      simp
    · unfold chU
      exact List.mem_append_left _ (chU_has hx hn (by omega))
theorem chU_len (P : Nat → ByteArray) (L : List Lf) : ∀ i : Nat, (chU P L i).length ≤ i
  | 0 => Nat.le_refl _
  | i + 1 => by
    have := chU_len P L i
    unfold chU
    rw [List.length_append]
    cases L[i]? with
    | none => simp only [List.length_nil]; omega
    | some x =>
      simp only
      split
      · simp only [List.length_nil]; omega
      · simp only [List.length_singleton]; omega
theorem nextOf_lt {n : Nat} {L : List Lf} (h : Shape n L) (hn : n ≤ 128) (i : Nat) : nextOf L i < 256 := by
  unfold nextOf
  cases hx : L[i + 1]? with
  | none => simp
  | some y =>
    simp only
    have := (h.pg y (List.mem_of_getElem? hx)).2
    have := h.pos y (List.mem_of_getElem? hx)
    omega
theorem pgT_size {n : Nat} {L : List Lf} (h : Shape n L) {i : Nat} {x : Lf} (hx : L[i]? = some x) : (pgT L i x).size = 1024 := by
  unfold pgT
  rw [bytesOf_size]
  exact pageText_len x _ (h.sz x (List.mem_of_getElem? hx))
theorem chU_nodup {n : Nat} {P : Nat → ByteArray} {L : List Lf} (h : Shape n L) : ∀ i : Nat, ((chU P L i).map Prod.fst).Nodup
  | 0 => by simp [chU]
  | i + 1 => by
    have ih := chU_nodup (P := P) h i
    cases hx : L[i]? with
    | none =>
      have : chU P L (i + 1) = chU P L i := by simp [chU, hx]
      rw [this]; exact ih
    | some x =>
      by_cases e : pgT L i x = P x.page.toNat
      · rw [chU_same hx e]; exact ih
      · rw [chU_new hx e, List.map_append, List.nodup_append]
        refine ⟨ih, by simp, fun a ha b hb => ?_⟩
        simp only [List.map_cons, List.map_nil, List.mem_singleton] at hb
        subst hb
        obtain ⟨c, hc, rfl⟩ := List.mem_map.1 ha
        obtain ⟨k, y, hk, hy, _, rfl⟩ := chU_mem hc
        intro e2
        have h1 : (L.map Lf.page)[k]? = some y.page := by simp [hy]
        have h2 : (L.map Lf.page)[i]? = some x.page := by simp [hx]
        simp only at e2
        rw [e2] at h1
        have := nodup_at h.nd h1 h2
        omega
theorem chU_chk {n : Nat} {P : Nat → ByteArray} {L : List Lf} (h : Shape n L) (i : Nat) : chk n (chU P L i) = 0 := by
  unfold chk
  rw [if_pos, if_pos (chU_nodup h i), if_pos]
  · intro c hc
    obtain ⟨k, x, _, hx, _, rfl⟩ := chU_mem hc
    exact pgT_size h hx
  · intro c hc
    obtain ⟨k, x, _, hx, _, rfl⟩ := chU_mem hc
    exact ⟨h.pos x (List.mem_of_getElem? hx), (h.pg x (List.mem_of_getElem? hx)).2⟩
/-- The pages behind a commit of all changes. -/
theorem enc_new {n : Nat} (hn : n ≤ 128) {P : Nat → ByteArray} {Q : Nat → ByteArray} {L : List Lf} (h : Shape n L) (hq : ∀ i, i < n → pgP Q i = P i) : Enc (pgP (newP Q (srtC (chU P L L.length)))) L := by
  intro i x hx
  have hck := chU_chk (P := P) h L.length
  obtain ⟨_, _, r3, r4⟩ := com_ready hn hck
  have hil := (List.getElem?_eq_some_iff.1 hx).1
  have hpos := h.pos x (List.mem_of_getElem? hx)
  have hpg := (h.pg x (List.mem_of_getElem? hx)).2
  by_cases e : pgT L i x = P x.page.toNat
  · rw [pgP_old, hq _ (by omega)]
    · exact e.symm
    · intro c hc e2
      obtain ⟨d, hd, rfl⟩ := List.mem_map.1 ((srtC_perm _).subset hc)
      obtain ⟨k, y, hk, hy, hne, rfl⟩ := chU_mem hd
      simp only [natC] at e2
      have hposy := h.pos y (List.mem_of_getElem? hy)
      have e3 : y.page = x.page := by omega
      have h1 : (L.map Lf.page)[k]? = some y.page := by simp [hy]
      have h2 : (L.map Lf.page)[i]? = some x.page := by simp [hx]
      rw [e3] at h1
      have hki := nodup_at h.nd h1 h2
      subst hki
      rw [hx] at hy
      cases hy
      exact hne e
  · have hm : natC (x.page, pgT L i x) ∈ srtC (chU P L L.length) := (srtC_perm _).symm.subset (List.mem_map_of_mem (chU_has hx e hil))
    have := pgP_new (P := Q) r3 hm (r4 _ hm)
    exact this
theorem pages_rec {n : Nat} {D : Dk} (h : Good n D) {Q : Nat → ByteArray} (hr : Rec n D.kept Q) (i : Nat) (hi : i < n) : pagesF n D i = pgP Q i := by
  unfold pagesF
  rw [h.seen]
  exact page_rec hr h.td i hi
theorem Enc.congr {n : Nat} {P Q : Nat → ByteArray} {L : List Lf} (h : Enc P L) (hs : Shape n L) (e : ∀ i, i < n → Q i = P i) : Enc Q L := by
  intro i x hx
  have hpos := hs.pos x (List.mem_of_getElem? hx)
  have hpg := (hs.pg x (List.mem_of_getElem? hx)).2
  rw [e _ (by omega)]
  exact h i x hx
/-- A whole Commit. -/
theorem good_commit {n : Nat} {D : Dk} (h : Good n D) (hn : n ≤ 128) {L : List Lf} (hs : Shape n L) : comCode n D (chU (pagesF n D) L L.length) = 0 ∧ Good n (comDisk n D (chU (pagesF n D) L L.length)) ∧ (comDisk n D (chU (pagesF n D) L L.length)).writes ≤ D.writes + 8 * n + 2 ∧ Enc (pagesF n (comDisk n D (chU (pagesF n D) L L.length))) L := by
  have hck := chU_chk (P := pagesF n D) hs L.length
  obtain ⟨k1, k2, k3, k4⟩ := h.commit hn (chU (pagesF n D) L L.length)
  have hl := chU_len (pagesF n D) L L.length
  have hl2 := hs.len
  refine ⟨k1.trans hck, k2, by omega, ?_⟩
  exact (enc_new hn hs (Q := ownP n D.kept) (fun i hi => (pages_rec h (own_rec h.td) i hi).symm)).congr hs (fun i hi => pages_rec k2 (k4 hck) i hi)
end Go.Proofs.YtnafalkcgghjgaaGreatDoor
