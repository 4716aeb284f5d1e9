/- The bytes of an area. -/
import Derived.Test.YtgihdfmeokbplaaEB
import Derived.Test.YtgihdfmeokbplaaNM
namespace Go.Proofs.Ytgihdfmeokbplaa.Ex
def encT (b : Int) : List Sp → List UInt8
  | [] => []
  | h :: t => putN (h.1 - b).toNat ++ putN h.2.toNat ++ encT (en h) t
def endOf (b : Int) : List Sp → Int
  | [] => b
  | h :: t => endOf (en h) t
theorem endOf_snoc (b : Int) (l : List Sp) (h : Sp) : endOf b (l ++ [h]) = en h := by
  induction l generalizing b with
  | nil => rfl
  | cons a t ih => exact ih _
theorem encT_snoc (b : Int) (l : List Sp) (h : Sp) : encT b (l ++ [h]) = encT b l ++ (putN (h.1 - endOf b l).toNat ++ putN h.2.toNat) := by
  induction l generalizing b with
  | nil => simp [encT, endOf]
  | cons a t ih => simp only [List.cons_append, encT, endOf, ih, List.append_assoc]
def encB (X : Ar) : List UInt8 := putN X.sz ++ putN X.hs.length ++ encT 0 X.hs
theorem encT_len (b : Int) (l : List Sp) (hb : ∀ n : Nat, n < 2 ^ 64 → (putN n).length ≤ 10) (h1 : ∀ s ∈ l, s.1 < 2 ^ 62 ∧ s.2 < 2 ^ 62 ∧ -2 ^ 62 < s.1 ∧ -2 ^ 62 < s.2) (h2 : -2 ^ 63 < b ∧ b < 2 ^ 63) : (encT b l).length ≤ 20 * l.length := by
  induction l generalizing b with
  | nil => simp [encT]
  | cons a t ih =>
    have ha := h1 a List.mem_cons_self
    have h3 := hb (a.1 - b).toNat (by omega)
    have h4 := hb a.2.toNat (by omega)
    have h5 := ih (en a) (fun s hs => h1 s (List.mem_cons_of_mem _ hs)) (by unfold en; omega)
    simp only [encT, List.length_append, List.length_cons]
    omega
theorem endOf_take {sz : Int} {l : List Sp} (hg : Gd 0 sz l) (h0 : 0 ≤ sz) (k : Nat) : 0 ≤ endOf 0 (l.take k) ∧ endOf 0 (l.take k) ≤ sz ∧ ∀ q, l[k]? = some q → endOf 0 (l.take k) ≤ q.1 := by
  cases k with
  | zero => exact ⟨Int.le_refl _, h0, fun q hq => (hg.mem (List.mem_of_getElem? hq)).1⟩
  | succ k =>
    cases hk : l[k]? with
    | none =>
      have hl : l.length ≤ k := by rw [List.getElem?_eq_none_iff] at hk; exact hk
      rw [List.take_of_length_le (by omega)]
      rcases snoc_cases l with rfl | ⟨A, p, rfl⟩
      · exact ⟨Int.le_refl _, h0, fun q hq => (by simp at hq)⟩
      · rw [endOf_snoc]
        have := hg.mem (s := p) (by simp)
        refine ⟨by unfold en; omega, by unfold en; omega, fun q hq => ?_⟩
        have := (List.getElem?_eq_some_iff.1 hq).1
        omega
    | some p =>
      have e : l.take (k + 1) = l.take k ++ [p] := by rw [List.take_add_one, hk]; rfl
      rw [e, endOf_snoc]
      have := hg.mem (List.mem_of_getElem? hk)
      refine ⟨by unfold en; omega, by unfold en; omega, fun q hq => ?_⟩
      have h9 := hg.order (show k < k + 1 by omega) hk hq
      omega
end Go.Proofs.Ytgihdfmeokbplaa.Ex
