/- Plain mathematics of layer 11: the place that is copied, as the program looks for it; windows one after the other. No program is named here. -/
import Derived.Test.YtbhnmjjfammlkaaDoorHB
namespace Go.Proofs.YtbhnmjjfammlkaaDoor
section
variable {σ : Type} [DecidableEq σ] (sg : List UInt8 → σ)
def fndL (L : List σ) (s : σ) : Option Nat := L.findIdx? fun x => decide (x = s)
/-- The least place that has the next size bytes; where fewer are left, the last place, if it has just these. -/
def nextP (L : List σ) (size last : Nat) (t : List UInt8) : Option (Nat × Nat) :=
  if size ≤ t.length then (fndL L (sg (t.take size))).map fun i => (i, size)
  else if 0 < last ∧ t.length = last ∧ L.getLast? = some (sg t) then some (L.length - 1, last) else none
variable {sg} {L : List σ} {size last : Nat}
theorem fndL_some {s : σ} {i : Nat} (h : fndL L s = some i) : L[i]? = some s := by
  unfold fndL at h
  obtain ⟨hi, h1, _⟩ := List.findIdx?_eq_some_iff_getElem.1 h
  rw [List.getElem?_eq_getElem hi, of_decide_eq_true h1]
theorem fndL_at {s : σ} {i : Nat} (h : L[i]? = some s) : ∃ j, fndL L s = some j := by
  cases hf : fndL L s with
  | some j => exact ⟨j, rfl⟩
  | none =>
    unfold fndL at hf
    have := List.findIdx?_eq_none_iff.1 hf s (List.mem_of_getElem? h)
    simp at this
theorem nextP_some {t : List UInt8} {i n : Nat} (hs : 1 ≤ size) (h : nextP sg L size last t = some (i, n)) : 1 ≤ n ∧ L[i]? = some (sg (t.take size)) ∧ t.take n = t.take size := by
  unfold nextP at h
  split at h
  · cases hf : fndL L (sg (t.take size)) with
    | none => rw [hf] at h; cases h
    | some j =>
      rw [hf] at h
      simp only [Option.map_some, Option.some.injEq, Prod.mk.injEq] at h
      obtain ⟨rfl, rfl⟩ := h
      exact ⟨hs, fndL_some hf, rfl⟩
  · next hlt =>
    split at h
    · next hc =>
      obtain ⟨h1, h2, h3⟩ := hc
      simp only [Option.some.injEq, Prod.mk.injEq] at h
      obtain ⟨rfl, rfl⟩ := h
      rw [List.take_of_length_le (show t.length ≤ size by omega), List.take_of_length_le (show t.length ≤ last by omega)]
      rw [List.getLast?_eq_getElem?] at h3
      exact ⟨h1, h3, rfl⟩
    · cases h
/-- Where fewer than size bytes are left. -/
theorem tailP : ∀ (u bs : List UInt8), u.length < size → makeP (nextP sg L size last) bs u = if 0 < last ∧ last ≤ u.length ∧ L.getLast? = some (sg (u.drop (u.length - last))) then bytP (bs ++ u.take (u.length - last)) ++ [Pc.blk (L.length - 1)] else bytP (bs ++ u)
  | [], bs, _ => by
    rw [makeP_nil, if_neg (by simp; omega), List.append_nil]
  | c :: r, bs, hu => by
    have hn : nextP sg L size last (c :: r) = if 0 < last ∧ (c :: r).length = last ∧ L.getLast? = some (sg (c :: r)) then some (L.length - 1, last) else none := by
      unfold nextP
      rw [if_neg (by omega)]
    by_cases hc : 0 < last ∧ (c :: r).length = last ∧ L.getLast? = some (sg (c :: r))
    · rw [if_pos hc] at hn
      obtain ⟨h1, h2, h3⟩ := hc
      rw [makeP_some (by simp) hn h1, List.drop_of_length_le (by omega), makeP_nil]
      rw [show (c :: r).length - last = 0 by omega, List.drop_zero, if_pos ⟨h1, by omega, h3⟩, List.take_zero, List.append_nil]
      rfl
    · rw [if_neg hc] at hn
      rw [makeP_none hn, tailP r (bs ++ [c]) (by simp at hu; omega)]
      by_cases hl : last ≤ r.length
      · have e1 : (c :: r).length - last = (r.length - last) + 1 := by simp; omega
        rw [e1, List.drop_succ_cons, List.take_succ_cons]
        have e2 : last ≤ (c :: r).length := by simp; omega
        simp only [hl, e2, true_and]
        simp
      · rw [if_neg (by omega)]
        have e2 : ¬ (0 < last ∧ last ≤ (c :: r).length ∧ L.getLast? = some (sg ((c :: r).drop ((c :: r).length - last)))) := by
          rintro ⟨h1, h2, h3⟩
          have e3 : (c :: r).length = last := by simp at h2 ⊢; omega
          rw [e3, Nat.sub_self, List.drop_zero] at h3
          exact hc ⟨h1, e3, h3⟩
        rw [if_neg e2]
        simp
/-- What the windows' loops hold: the pieces so far, and where the bytes by themselves begin and end. -/
def WinI (sg : List UInt8 → σ) (L : List σ) (size last : Nat) (t : List UInt8) (out : List Pc) (done p : Nat) : Prop :=
  done ≤ p ∧ p ≤ t.length ∧ out.length ≤ 2 * done ∧ makeP (nextP sg L size last) [] t = out ++ makeP (nextP sg L size last) ((t.drop done).take (p - done)) (t.drop p)
theorem WinI.start (t : List UInt8) : WinI sg L size last t [] 0 0 := ⟨Nat.le_refl _, Nat.zero_le _, Nat.zero_le _, by simp⟩
theorem WinI.step {t : List UInt8} {out : List Pc} {done p : Nat} (h : WinI sg L size last t out done p) (hs : 1 ≤ size) (hp : p + size ≤ t.length) (hf : fndL L (sg ((t.drop p).take size)) = none) : WinI sg L size last t out done (p + 1) := by
  obtain ⟨h1, h2, h3, h4⟩ := h
  refine ⟨by omega, by omega, h3, ?_⟩
  rw [h4]
  have hd : t.drop p = t[p] :: t.drop (p + 1) := List.drop_eq_getElem_cons (by omega)
  have hn : nextP sg L size last (t.drop p) = none := by
    unfold nextP
    rw [if_pos (by rw [List.length_drop]; omega), hf]
    rfl
  rw [hd] at hn ⊢
  rw [makeP_none hn]
  have e : (t.drop done).take (p + 1 - done) = (t.drop done).take (p - done) ++ [t[p]] := by
    rw [show p + 1 - done = (p - done) + 1 by omega, List.take_add_one, List.getElem?_drop, show done + (p - done) = p by omega, List.getElem?_eq_getElem (by omega)]
    rfl
  rw [e]
theorem WinI.found {t : List UInt8} {out : List Pc} {done p i : Nat} (h : WinI sg L size last t out done p) (hs : 1 ≤ size) (hp : p + size ≤ t.length) (hf : fndL L (sg ((t.drop p).take size)) = some i) : WinI sg L size last t (out ++ bytP ((t.drop done).take (p - done)) ++ [Pc.blk i]) (p + size) (p + size) := by
  obtain ⟨h1, h2, h3, h4⟩ := h
  refine ⟨by omega, by omega, ?_, ?_⟩
  · have : (bytP ((t.drop done).take (p - done))).length ≤ 1 := by unfold bytP; split <;> simp
    have h5 : done = p → (bytP ((t.drop done).take (p - done))).length = 0 := fun e => by rw [e, Nat.sub_self]; rfl
    simp only [List.length_append, List.length_cons, List.length_nil]
    by_cases e : done = p
    · have := h5 e; omega
    · omega
  · rw [h4]
    have hn : nextP sg L size last (t.drop p) = some (i, size) := by
      unfold nextP
      rw [if_pos (by rw [List.length_drop]; omega), hf]
      rfl
    have hne : t.drop p ≠ [] := fun e => by have := congrArg List.length e; rw [List.length_drop] at this; simp at this; omega
    rw [makeP_some hne hn hs, List.drop_drop, Nat.sub_self, List.take_zero]
    simp
/-- How the loops end. -/
def WinE (sg : List UInt8 → σ) (L : List σ) (size last : Nat) (t : List UInt8) (out : List Pc) (done : Nat) : Prop :=
  ∃ p, WinI sg L size last t out done p ∧ t.length < p + size ∧ (p = done ∨ (p + size = t.length + 1 ∧ fndL L (sg (t.drop (t.length - size))) = none))
theorem WinI.end {t : List UInt8} {out : List Pc} {done : Nat} (h : WinI sg L size last t out done done) (hp : t.length < done + size) : WinE sg L size last t out done := ⟨done, h, hp, .inl rfl⟩
theorem WinI.stop {t : List UInt8} {out : List Pc} {done p : Nat} (h : WinI sg L size last t out done p) (hs : 1 ≤ size) (hp : p + size = t.length) (hf : fndL L (sg ((t.drop p).take size)) = none) : WinE sg L size last t out done := by
  refine ⟨p + 1, h.step hs (by omega) hf, by omega, .inr ⟨by omega, ?_⟩⟩
  rw [List.take_of_length_le (by rw [List.length_drop]; omega)] at hf
  rw [show t.length - size = p by omega]
  exact hf
theorem WinE.done_le {t : List UInt8} {out : List Pc} {done : Nat} (h : WinE sg L size last t out done) : done ≤ t.length ∧ out.length ≤ 2 * done := by
  obtain ⟨p, ⟨h1, h2, h3, _⟩, _⟩ := h
  exact ⟨by omega, h3⟩
theorem WinE.yes {t : List UInt8} {out : List Pc} {done : Nat} (h : WinE sg L size last t out done) (hl : last ≤ size) (h0 : 0 < last) (h1 : done + last ≤ t.length) (h2 : L.getLast? = some (sg (t.drop (t.length - last)))) : makeP (nextP sg L size last) [] t = out ++ bytP ((t.drop done).take (t.length - last - done)) ++ [Pc.blk (L.length - 1)] := by
  obtain ⟨p, ⟨a1, a2, a3, a4⟩, b1, b2⟩ := h
  have hp : p + last ≤ t.length := by
    rcases b2 with rfl | ⟨c1, c2⟩
    · exact h1
    · by_cases e : last = size
      · subst e
        rw [List.getLast?_eq_getElem?] at h2
        obtain ⟨j, hj⟩ := fndL_at h2
        rw [c2] at hj
        cases hj
      · omega
  rw [a4, tailP _ _ (by rw [List.length_drop]; omega), List.length_drop, List.drop_drop, show p + (t.length - p - last) = t.length - last by omega, if_pos ⟨h0, by omega, h2⟩, ← List.append_assoc]
  congr 3
  rw [show t.length - last - done = (p - done) + (t.length - p - last) by omega, List.take_add, List.drop_drop, show done + (p - done) = p by omega]
theorem WinE.no {t : List UInt8} {out : List Pc} {done : Nat} (h : WinE sg L size last t out done) (hn : ¬ (0 < last ∧ done + last ≤ t.length ∧ L.getLast? = some (sg (t.drop (t.length - last))))) : makeP (nextP sg L size last) [] t = out ++ bytP (t.drop done) := by
  obtain ⟨p, ⟨a1, a2, a3, a4⟩, b1, b2⟩ := h
  rw [a4, tailP _ _ (by rw [List.length_drop]; omega), List.length_drop, List.drop_drop, if_neg]
  · congr 2
    rw [show t.drop p = (t.drop done).drop (p - done) by rw [List.drop_drop, show done + (p - done) = p by omega], List.take_append_drop]
  · rintro ⟨h1, h2, h3⟩
    refine hn ⟨h1, by omega, ?_⟩
    rw [show p + (t.length - p - last) = t.length - last by omega] at h3
    exact h3
/-- What is made of a text by a basis' signatures makes that text again, or two unlike ones of the basis' blocks and the text's windows have the same signature. -/
theorem backP {b t : List UInt8} {s : Nat} (hs : 1 ≤ s) :
    ((∀ p ∈ makeP (nextP sg (sigsL sg b s) s (lastL b s)) [] t, p.copy = true → p.n < (cntL b s : Int)) ∧ textP (blkL b s) (makeP (nextP sg (sigsL sg b s) s (lastL b s)) [] t) = t) ∨ ∃ i k, i < cntL b s ∧ k < t.length ∧ blkL b s i ≠ (t.drop k).take s ∧ sg (blkL b s i) = sg ((t.drop k).take s) := by
  by_cases h : ∃ i k, i < cntL b s ∧ k < t.length ∧ blkL b s i ≠ (t.drop k).take s ∧ sg (blkL b s i) = sg ((t.drop k).take s)
  · exact .inr h
  · have key : ∀ k i n, nextP sg (sigsL sg b s) s (lastL b s) (t.drop k) = some (i, n) → i < cntL b s ∧ 1 ≤ n ∧ sg (blkL b s i) = sg ((t.drop k).take s) ∧ (t.drop k).take n = (t.drop k).take s := fun k i n he => by
      obtain ⟨h1, h2, h3⟩ := nextP_some hs he
      have hi : i < cntL b s := by have := (List.getElem?_eq_some_iff.1 h2).1; rwa [sigs_len] at this
      rw [sigs_at hi, Option.some.injEq] at h2
      exact ⟨hi, h1, h2, h3⟩
    refine .inl ⟨?_, ?_⟩
    · have : ∀ (m : Nat) (k : Nat) (bs : List UInt8), t.length - k = m → k ≤ t.length → ∀ p ∈ makeP (nextP sg (sigsL sg b s) s (lastL b s)) bs (t.drop k), p.copy = true → p.n < (cntL b s : Int) := by
        intro m
        induction m using Nat.strongRecOn with
        | ind m ih =>
          intro k bs hm hk p hp hcp
          have byt : ∀ x : List UInt8, p ∈ bytP x → False := fun x hx => by
            unfold bytP at hx
            split at hx
            · cases hx
            · rw [List.mem_singleton.1 hx] at hcp
              cases hcp
          by_cases hkt : k < t.length
          · have hd : t.drop k = t[k] :: t.drop (k + 1) := List.drop_eq_getElem_cons hkt
            cases hx : nextP sg (sigsL sg b s) s (lastL b s) (t.drop k) with
            | none =>
              rw [hd] at hx hp
              rw [makeP_none hx] at hp
              exact ih (t.length - (k + 1)) (by omega) (k + 1) _ rfl (by omega) p hp hcp
            | some q =>
              obtain ⟨i, n⟩ := q
              obtain ⟨h1, h2, _⟩ := key k i n hx
              rw [makeP_some (by rw [hd]; exact List.cons_ne_nil _ _) hx h2] at hp
              rcases List.mem_append.1 hp with hp | hp
              · exact (byt _ hp).elim
              · rcases List.mem_cons.1 hp with rfl | hp
                · show ((i : Nat) : Int) < _
                  omega
                · rw [List.drop_drop] at hp
                  by_cases hkn : k + n ≤ t.length
                  · exact ih (t.length - (k + n)) (by omega) (k + n) _ rfl hkn p hp hcp
                  · rw [List.drop_of_length_le (by omega), makeP_nil] at hp
                    exact (byt _ hp).elim
          · rw [List.drop_of_length_le (by omega), makeP_nil] at hp
            exact (byt _ hp).elim
      have h5 := this (t.length - 0) 0 [] rfl (Nat.zero_le _)
      rwa [List.drop_zero] at h5
    · have := make_text (nx := nextP sg (sigsL sg b s) s (lastL b s)) (blkL b s) t.length t [] rfl (fun k i n hk he => ?_)
      · rwa [List.nil_append] at this
      · obtain ⟨h1, h2, h3, h4⟩ := key k i n he
        refine ⟨h2, ?_⟩
        rw [h4]
        exact Classical.byContradiction fun hne => h ⟨i, k, h1, hk, hne, h3⟩
/-- Of the basis itself nothing but blocks is left. -/
theorem sameP {b : List UInt8} {s : Nat} (hs : 1 ≤ s) : (∀ p ∈ makeP (nextP sg (sigsL sg b s) s (lastL b s)) [] b, p.copy = true ∧ p.data = ⟨#[]⟩) ∧ (makeP (nextP sg (sigsL sg b s) s (lastL b s)) [] b).length = cntL b s := by
  refine make_whole hs b.length b rfl fun j hj => ?_
  have hc := (cnt_lt (i := j) hs).2 hj
  have hl := blk_len hs hc
  have hbl : (blkL b s j).length = min s (b.length - j * s) := by unfold blkL; rw [List.length_take, List.length_drop]
  have hat := sigs_at (sg := sg) hc
  unfold nextP
  rw [List.length_drop]
  by_cases hh : s ≤ b.length - j * s
  · rw [if_pos hh]
    obtain ⟨i, hi⟩ := fndL_at hat
    refine ⟨i, ?_⟩
    have e : (b.drop (j * s)).take s = blkL b s j := rfl
    rw [e, hi, Nat.min_eq_left hh]
    rfl
  · rw [if_neg hh]
    have hj1 : j + 1 = cntL b s := by
      have h5 : ¬ j + 1 < cntL b s := fun h6 => by
        have := (cnt_lt (i := j + 1) hs).1 h6
        rw [Nat.add_mul] at this
        omega
      omega
    have hla : lastL b s = b.length - j * s := by
      unfold nlen at hl
      rw [if_pos hj1] at hl
      omega
    have e : blkL b s j = b.drop (j * s) := by unfold blkL; rw [List.take_of_length_le (by rw [List.length_drop]; omega)]
    rw [e] at hat
    refine ⟨(sigsL sg b s).length - 1, ?_⟩
    rw [if_pos ⟨by omega, hla.symm, by rw [List.getLast?_eq_getElem?, sigs_len, ← hj1, Nat.add_sub_cancel]; exact hat⟩, hla, Nat.min_eq_right (by omega)]
theorem nextP_nil (t : List UInt8) : nextP sg ([] : List σ) size 0 t = none := by
  unfold nextP
  split
  · rfl
  · rw [if_neg (by omega)]
end
end Go.Proofs.YtbhnmjjfammlkaaDoor
