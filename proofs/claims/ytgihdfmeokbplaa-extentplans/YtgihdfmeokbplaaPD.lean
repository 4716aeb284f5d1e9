/- A row of spans, sorted. -/
import Derived.Test.YtgihdfmeokbplaaPC
namespace Go.Proofs.Ytgihdfmeokbplaa
open Go.Shelf Go.RowKit Go.Lib Go.Sort Ex
theorem upd_sorted {w : World} {g n : Nat} {os : Array Obj} (d : Array Sp) : Upd (fun x => x = g) w (sortWorldK spV 2 w g 0 n d os) := by
  refine ⟨rfl, rfl, rfl, ?_, fun k hk hs => ?_⟩
  · simp [sortWorldK, grow, putRowK, putRow, mapBlock, Sort.ahead]
  · have h1 : (putRowK spV 2 (Sort.ahead w n) g 0 d).heap[k]? = w.heap[k]? := by
      simp only [putRowK, putRow, mapBlock, Sort.ahead]
      rw [Array.getElem?_modify, if_neg (fun e => hs e.symm)]
    have h2 : k < (putRowK spV 2 (Sort.ahead w n) g 0 d).heap.size := by simp [putRowK, putRow, mapBlock, Sort.ahead]; exact hk
    rw [← h1]
    simp only [sortWorldK, grow]
    exact Array.getElem?_append_left h2
theorem holds_of {w : World} {base b n cap : Nat} {l : List Sp} (h : w.ownsRow base 37 2 (.slice (some ⟨b, 0, none⟩) n cap) n (spsV l)) : HoldsK spV 2 w b 0 l.toArray := by
  intro j hj
  rw [size_flatK] at hj
  have hj2 : j < l.length * 2 := by simpa using hj
  rw [get_flatK _ _ _ _ hj]
  obtain ⟨q, hq⟩ : ∃ q, l[j / 2]? = some q := ⟨_, List.getElem?_eq_getElem (by omega)⟩
  have e1 : l.toArray[j / 2]! = q := by
    rw [getElem!_pos _ _ (by simp; omega)]
    simpa using (List.getElem?_eq_some_iff.1 hq).2
  obtain ⟨h8, h9⟩ := spsV_at l (j / 2) q hq
  refine ⟨?_, ?_⟩
  · rw [e1, Nat.zero_add]
    rcases Nat.mod_two_eq_zero_or_one j with hm | hm
    · have := own_at h h8
      rw [show j / 2 * 2 = j by omega] at this
      rw [this, hm]; rfl
    · have := own_at h h9
      rw [show j / 2 * 2 + 1 = j by omega] at this
      rw [this, hm]; rfl
  · obtain ⟨L, hL, _⟩ := Blk.of h
    exact frozen_of_row w b (0 + j) _ _ hL
theorem sp_of_holds {w : World} {b n cap : Nat} {d : Array Sp} (hn : d.size = n) (hc : n ≤ cap) (hm : cap ≤ 9223372036854775807) (hb : b < w.heap.size) (h : HoldsK spV 2 w b 0 d) : SpW w (some ⟨b, 0, none⟩) n cap d.toList := by
  refine ⟨by simp [hn], hc, hm, fun e => (by cases e), fun _ => ⟨b, 0, rfl, hb, fun i q hq => ?_⟩⟩
  have hi : i < d.size := by have := (List.getElem?_eq_some_iff.1 hq).1; simpa using this
  have e1 : (d[i]! : Sp) = q := by
    rw [getElem!_pos d i hi]
    simpa using (List.getElem?_eq_some_iff.1 hq).2
  have h1 := (h (i * 2) (by rw [size_flatK]; omega)).1
  have h2 := (h (i * 2 + 1) (by rw [size_flatK]; omega)).1
  rw [get_flatK _ _ _ _ (by omega)] at h1 h2
  rw [show i * 2 / 2 = i by omega, show i * 2 % 2 = 0 by omega, e1] at h1
  rw [show (i * 2 + 1) / 2 = i by omega, show (i * 2 + 1) % 2 = 1 by omega, e1] at h2
  exact ⟨h1, h2⟩
/-- slices.SortFunc by From, of a row of one's own. -/
theorem sortO {w : World} {base b n cap : Nat} {l : List Sp} (h : w.ownsRow base 37 2 (.slice (some ⟨b, 0, none⟩) n cap) n (spsV l)) (hn : n ≤ 1000000) :
    Calls Try.prog 45 #[.slice (some ⟨b, 0, none⟩) n cap, .func (.func 46) #[] #[]] w fun e w' => e = .returned (.tuple #[]) ∧ ∃ l' : List Sp, l'.Perm l ∧ (∀ (i j : Nat) (p q : Sp), i < j → l'[i]? = some p → l'[j]? = some q → p.1 ≤ q.1) ∧ SpW w' (some ⟨b, 0, none⟩) n cap l' ∧ Upd (fun x => x = b) w w' := by
  have hl : l.length = n := by have := h.1; rw [spsV_len] at this; omega
  have hH := holds_of h
  obtain ⟨L, hL, _, _, hc, hcm⟩ := Blk.of h
  have hs : l.toArray.size = n := by simpa using hl
  have HS := sort_any (cap := cap) hH hL.lt (by omega)
  rw [hs] at HS
  refine HS.mono fun e w' ⟨he, d', m, os, ⟨p1, _, p3⟩, hso, hw⟩ => ⟨he, d'.toList, ?_, ?_, ?_, ?_⟩
  · rw [hs] at p1
    rw [Array.extract_eq_self_of_le (by omega), Array.extract_eq_self_of_le (by omega)] at p3
    simpa using p3
  · intro i j p q hij hp hq
    rw [hs] at p1
    have hj : j < d'.size := by have := (List.getElem?_eq_some_iff.1 hq).1; simpa using this
    have h9 := hso i j (Nat.zero_le _) hij (by omega)
    have ep : d'[i]! = p := by rw [getElem!_pos d' i (by omega)]; simpa using (List.getElem?_eq_some_iff.1 hp).2
    have eq : d'[j]! = q := by rw [getElem!_pos d' j hj]; simpa using (List.getElem?_eq_some_iff.1 hq).2
    rw [ltI, ep, eq] at h9
    simpa using h9
  · rw [hw]
    refine sp_of_holds (by rw [p1, hs]) hc (by simpa [maxLen] using hcm) ?_ (holdsK_sortWorldK spV 2 w b 0 m l.toArray d' os hL.lt hH p1)
    exact lt_sortWorldK spV 2 w b 0 m d' os hL.lt
  · rw [hw]; exact upd_sorted d'
end Go.Proofs.Ytgihdfmeokbplaa
