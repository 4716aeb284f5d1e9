/- Which tokens are chosen. -/
import Derived.Test.YtekbmdpokghmmaaLM
namespace Go.Proofs.Ytekbmdpokghmmaa
namespace Lz
def key3 (x : List UInt8) (i : Nat) : UInt8 × UInt8 × UInt8 := (x.getD i 0, x.getD (i + 1) 0, x.getD (i + 2) 0)
/-- Where three bytes stood last. -/
def lastK (x : List UInt8) (k : UInt8 × UInt8 × UInt8) : Nat → Option Nat
  | 0 => none
  | i + 1 => if key3 x i = k then some i else lastK x k i
theorem lastK_some {x : List UInt8} {k : UInt8 × UInt8 × UInt8} : ∀ {i j : Nat}, lastK x k i = some j → j < i ∧ key3 x j = k
  | 0, _, h => by cases h
  | i + 1, j, h => by
    unfold lastK at h
    split at h
    · next h1 =>
      cases h
      exact ⟨by omega, h1⟩
    · have := lastK_some h
      exact ⟨by omega, this.2⟩
/-- How many bytes are alike. -/
def alikeN (x : List UInt8) (fr a : Nat) : Nat → Nat → Nat
  | 0, n => n
  | f + 1, n => if n < 130 ∧ a + n < x.length ∧ x.getD (fr + n) 0 = x.getD (a + n) 0 then alikeN x fr a f (n + 1) else n
def alike (x : List UInt8) (fr a : Nat) : Nat := alikeN x fr a 127 3
theorem alikeN_spec (x : List UInt8) (fr a : Nat) : ∀ f n, n + f ≤ 130 → (∀ j, j < n → x.getD (fr + j) 0 = x.getD (a + j) 0) → a + n ≤ x.length →
    n ≤ alikeN x fr a f n ∧ alikeN x fr a f n ≤ 130 ∧ a + alikeN x fr a f n ≤ x.length ∧ ∀ j, j < alikeN x fr a f n → x.getD (fr + j) 0 = x.getD (a + j) 0
  | 0, n, h, h1, h2 => ⟨Nat.le_refl _, by simp only [alikeN]; omega, h2, h1⟩
  | f + 1, n, h, h1, h2 => by
    unfold alikeN
    split
    · next h3 =>
      obtain ⟨k1, k2, k3, k4⟩ := alikeN_spec x fr a f (n + 1) (by omega) (fun j hj => by
        rcases Nat.lt_or_ge j n with hj' | hj'
        · exact h1 j hj'
        · obtain rfl : j = n := by omega
          exact h3.2.2) (by omega)
      exact ⟨by omega, k2, k3, k4⟩
    · exact ⟨Nat.le_refl _, by omega, h2, h1⟩
theorem alike_spec {x : List UInt8} {fr a : Nat} (h : key3 x fr = key3 x a) (ha : a + 3 ≤ x.length) : 3 ≤ alike x fr a ∧ alike x fr a ≤ 130 ∧ a + alike x fr a ≤ x.length ∧ ∀ j, j < alike x fr a → x.getD (fr + j) 0 = x.getD (a + j) 0 := by
  unfold key3 at h
  simp only [Prod.mk.injEq] at h
  refine alikeN_spec x fr a 127 3 (by omega) (fun j hj => ?_) ha
  match j, hj with
  | 0, _ => exact h.1
  | 1, _ => exact h.2.1
  | 2, _ => exact h.2.2
/-- Bytes for themselves. -/
def ownsL (x : List UInt8) (d e : Nat) : List Tk := if d < e then ⟨0, 0, (x.drop d).take (min e (d + 128) - d)⟩ :: ownsL x (min e (d + 128)) e else []
termination_by e - d
theorem ownsL_on {x : List UInt8} {d e : Nat} (h : d < e) : ownsL x d e = ⟨0, 0, (x.drop d).take (min e (d + 128) - d)⟩ :: ownsL x (min e (d + 128)) e := by rw [ownsL, if_pos h]
theorem ownsL_end {x : List UInt8} {d e : Nat} (h : ¬ d < e) : ownsL x d e = [] := by rw [ownsL, if_neg h]
theorem own_tok {x : List UInt8} {d e : Nat} (h : d < e) (he : e ≤ x.length) : Tk.Own ⟨0, 0, (x.drop d).take (min e (d + 128) - d)⟩ ∧ ((x.drop d).take (min e (d + 128) - d)).length = min e (d + 128) - d := by
  have hl : ((x.drop d).take (min e (d + 128) - d)).length = min e (d + 128) - d := by rw [List.length_take, List.length_drop]; omega
  exact ⟨⟨by simp only [hl]; omega, by simp only [hl]; omega, rfl, rfl⟩, hl⟩
theorem own_told {x : List UInt8} {d e : Nat} (h : d < e) (he : e ≤ x.length) : d + Tk.told ⟨0, 0, (x.drop d).take (min e (d + 128) - d)⟩ = min e (d + 128) := by
  unfold Tk.told
  rw [(own_tok h he).2]
  simp only
  omega
theorem owns_spec (x : List UInt8) (e size : Nat) (he : e ≤ x.length) (hs : e ≤ size) (d : Nat) (hd : d ≤ e) :
    Goes size d (ownsL x d e) ∧ toldL (ownsL x d e) = e - d ∧ (ownsL x d e).foldl tellT (x.take d) = x.take e ∧ 128 * (encL (ownsL x d e)).length ≤ 128 * (e - d) + (e - d) + 127 ∧ (d = e → ownsL x d e = []) := by
  by_cases h : d < e
  · have ih := owns_spec x e size he hs (min e (d + 128)) (by omega)
    rw [ownsL_on h]
    have ho := own_tok h he
    have ht := own_told h he
    obtain ⟨g1, g2, g3, g4, g5⟩ := ih
    refine ⟨⟨.inl ho.1, by simp, by rw [ht]; omega, by rw [ht]; exact g1⟩, ?_, ?_, ?_, fun hd => absurd h (by omega)⟩
    · simp only [toldL]; rw [g2]; omega
    · rw [List.foldl_cons]
      have e1 : tellT (x.take d) ⟨0, 0, (x.drop d).take (min e (d + 128) - d)⟩ = x.take (min e (d + 128)) := by
        simp only [tellT, cpy]
        rw [show min e (d + 128) = d + (min e (d + 128) - d) by omega, List.take_add, show d + (min e (d + 128) - d) - d = min e (d + 128) - d by omega]
      rw [e1, g3]
    · rw [show ∀ (t : Tk) l, encL (t :: l) = t.enc ++ encL l from fun t l => by simp [encL], List.length_append, ho.1.enc, List.length_cons, ho.2]
      by_cases h2 : e ≤ d + 128
      · have : ownsL x (min e (d + 128)) e = [] := g5 (by omega)
        rw [this] at g4 ⊢
        rw [show (encL ([] : List Tk)).length = 0 from rfl]
        omega
      · omega
  · rw [ownsL_end h]
    exact ⟨trivial, by simp only [toldL]; omega, by rw [List.foldl_nil, show d = e by omega], by simp [encL], fun _ => rfl⟩
termination_by e - d
/-- One place. -/
def stepC (x : List UInt8) (i : Nat) (st : Nat × List Tk) : Nat × List Tk :=
  match lastK x (key3 x i) i with
  | none => st
  | some fr => if i < st.1 then st else if 3 < alike x fr i ∨ i = st.1 then (i + alike x fr i, st.2 ++ ownsL x st.1 i ++ [⟨i - fr, alike x fr i, []⟩]) else st
def runC (x : List UInt8) : Nat → Nat × List Tk
  | 0 => (0, [])
  | i + 1 => stepC x i (runC x i)
def chooseL (x : List UInt8) : List Tk := (runC x (x.length - 2)).2 ++ ownsL x (runC x (x.length - 2)).1 x.length
theorem take_getD (x : List UInt8) (n j : Nat) (h : j < n) : (x.take n).getD j 0 = x.getD j 0 := by
  simp only [List.getD_eq_getElem?_getD, List.getElem?_take_of_lt h]
theorem cpy_alike (x : List UInt8) (fr a : Nat) (hfa : fr < a) : ∀ n, a + n ≤ x.length → (∀ j, j < n → x.getD (fr + j) 0 = x.getD (a + j) 0) → cpy (a - fr) n (x.take a) = x.take (a + n)
  | 0, _, _ => rfl
  | n + 1, h, h1 => by
    rw [cpy_snoc, cpy_alike x fr a hfa n (by omega) (fun j hj => h1 j (by omega))]
    have hl : (x.take (a + n)).length = a + n := by rw [List.length_take]; omega
    rw [hl, show a + n - (a - fr) = fr + n by omega, take_getD x (a + n) (fr + n) (by omega), h1 n (by omega)]
    rw [show a + (n + 1) = a + n + 1 by omega, List.take_add_one, List.getD_eq_getElem?_getD, List.getElem?_eq_getElem (show a + n < x.length by omega)]
    rfl
/-- What stands after some places. -/
structure RunOk (x : List UInt8) (d : Nat) (ts : List Tk) : Prop where
  le : d ≤ x.length
  g : Goes x.length 0 ts
  n : toldL ts = d
  o : outL ts = x.take d
  c : 128 * (encL ts).length ≤ 128 * d + d
theorem run_ok (x : List UInt8) (hx : x.length ≤ 65536) : ∀ i, i ≤ x.length - 2 → RunOk x (runC x i).1 (runC x i).2
  | 0, _ => ⟨Nat.zero_le _, trivial, rfl, rfl, Nat.zero_le _⟩
  | i + 1, hi => by
    have ih := run_ok x hx i (by omega)
    obtain ⟨d, ts, hr⟩ : ∃ d ts, runC x i = (d, ts) := ⟨_, _, rfl⟩
    unfold runC
    rw [hr] at ih ⊢
    simp only at ih
    unfold stepC
    cases hl : lastK x (key3 x i) i with
    | none => exact ih
    | some fr =>
      simp only
      obtain ⟨h1, h2⟩ := lastK_some hl
      obtain ⟨a1, a2, a3, a4⟩ := alike_spec h2 (by omega)
      by_cases h3 : i < d
      · rw [if_pos h3]; exact ih
      · rw [if_neg h3]
        by_cases h4 : 3 < alike x fr i ∨ i = d
        · rw [if_pos h4]
          obtain ⟨n, hn⟩ : ∃ n, alike x fr i = n := ⟨_, rfl⟩
          rw [hn] at a1 a2 a3 a4 h4 ⊢
          obtain ⟨g1, g2, g3, g4, g5⟩ := owns_spec x i x.length (by omega) (by omega) d (by omega)
          have ht : Tk.Ear ⟨i - fr, n, []⟩ := ⟨rfl, a1, a2, by simp only; omega, by simp only; omega⟩
          have htt : Tk.told ⟨i - fr, n, []⟩ = n := by simp [Tk.told]
          have hn1 := ih.n
          refine ⟨a3, ?_, ?_, ?_, ?_⟩
          · rw [Goes.app, Goes.app]
            refine ⟨⟨ih.g, by rw [Nat.zero_add, ih.n]; exact g1⟩, .inr ht, ?_, ?_, trivial⟩
            · simp only [toldL_app, ih.n, g2]; omega
            · rw [htt, toldL_app, ih.n, g2]; omega
          · rw [toldL_app, toldL_app, toldL_one, htt, ih.n, g2]; omega
          · unfold outL
            rw [List.foldl_append, List.foldl_append]
            have := ih.o
            unfold outL at this
            rw [this, g3]
            simp only [List.foldl_cons, List.foldl_nil, tellT, List.append_nil]
            exact cpy_alike x fr i h1 n a3 a4
          · have hc := ih.c
            rw [encL_app, encL_app, encL_one, List.length_append, List.length_append, ht.enc]
            simp only [List.length_cons, List.length_nil]
            rcases Nat.lt_or_ge d i with hd | hd
            · omega
            · rw [g5 (by omega), show (encL ([] : List Tk)).length = 0 from rfl]
              omega
        · rw [if_neg h4]; exact ih
theorem choose_ok (x : List UInt8) (hx : x.length ≤ 65536) : Goes x.length 0 (chooseL x) ∧ toldL (chooseL x) = x.length ∧ outL (chooseL x) = x ∧ (encL (chooseL x)).length ≤ x.length + x.length / 128 + 1 := by
  have h := run_ok x hx (x.length - 2) (Nat.le_refl _)
  unfold chooseL
  obtain ⟨d, ts, hr⟩ : ∃ d ts, runC x (x.length - 2) = (d, ts) := ⟨_, _, rfl⟩
  rw [hr] at h ⊢
  simp only at h ⊢
  obtain ⟨g1, g2, g3, g4, g5⟩ := owns_spec x x.length x.length (Nat.le_refl _) (Nat.le_refl _) d h.le
  have hn := h.n
  have hc := h.c
  have hle := h.le
  refine ⟨?_, ?_, ?_, ?_⟩
  · rw [Goes.app]; exact ⟨h.g, by rw [Nat.zero_add, h.n]; exact g1⟩
  · rw [toldL_app, h.n, g2]; omega
  · have := h.o
    unfold outL at this ⊢
    rw [List.foldl_append, this, g3, List.take_length]
  · rw [encL_app, List.length_append]
    omega
/-- What is packed. -/
def packB (x : List UInt8) : List UInt8 := packL x.length (chooseL x)
theorem pack_len (x : List UInt8) (hx : x.length ≤ 65536) : (packB x).length ≤ x.length + x.length / 128 + 4 := by
  have := (choose_ok x hx).2.2.2
  have := putN_len3 hx
  unfold packB packL
  rw [List.length_append]
  omega
theorem pack_whole (x : List UInt8) (hx : x.length ≤ 65536) : Whole (packB x) x.length (chooseL x) := whole_pack hx (choose_ok x hx).1 (choose_ok x hx).2.1
/-- One byte, again and again. -/
theorem rep_getD (c : UInt8) (n i : Nat) (h : i < n) : (List.replicate n c).getD i 0 = c := by simp [List.getD_eq_getElem?_getD, h]
theorem rep_key (c : UInt8) (n i : Nat) (h : i + 2 < n) : key3 (List.replicate n c) i = (c, c, c) := by
  unfold key3
  rw [rep_getD c n i (by omega), rep_getD c n (i + 1) (by omega), rep_getD c n (i + 2) (by omega)]
theorem rep_last (c : UInt8) (n i : Nat) (h : i + 3 < n) : lastK (List.replicate n c) (key3 (List.replicate n c) (i + 1)) (i + 1) = some i := by
  rw [rep_key c n (i + 1) (by omega)]
  unfold lastK
  rw [if_pos (rep_key c n i (by omega))]
theorem rep_alikeN (c : UInt8) (n fr a : Nat) (hf : fr < a) : ∀ f m, m + f = 130 → a + m ≤ n → alikeN (List.replicate n c) fr a f m = min 130 (n - a)
  | 0, m, h, h1 => by simp only [alikeN]; omega
  | f + 1, m, h, h1 => by
    unfold alikeN
    rw [List.length_replicate]
    by_cases h2 : a + m < n
    · rw [if_pos ⟨by omega, h2, by rw [rep_getD c n _ (by omega), rep_getD c n _ h2]⟩]
      exact rep_alikeN c n fr a hf f (m + 1) (by omega) (by omega)
    · rw [if_neg (by omega)]; omega
theorem rep_run (c : UInt8) (n : Nat) : ∀ i, i ≤ n - 2 → ∃ d ts, runC (List.replicate n c) i = (d, ts) ∧ ((d = 0 ∧ ts = [] ∧ (i ≤ 1 ∨ n ≤ 4)) ∨ ∃ j, 1 + 130 * j ≤ n ∧ ((d = 1 + 130 * j ∧ i ≤ d ∧ (encL ts).length ≤ 2 + 3 * j) ∨ (d = n ∧ (encL ts).length ≤ 5 + 3 * j)))
  | 0, _ => ⟨0, [], rfl, .inl ⟨rfl, rfl, .inl (by omega)⟩⟩
  | i + 1, hi => by
    obtain ⟨d, ts, hr, h⟩ := rep_run c n i (by omega)
    unfold runC
    rw [hr]
    cases i with
    | zero =>
      refine ⟨d, ts, rfl, ?_⟩
      rcases h with ⟨h1, h2, _⟩ | ⟨j, hj, ⟨h1, _, h3⟩ | h1⟩
      · exact .inl ⟨h1, h2, .inl (by omega)⟩
      · exact .inr ⟨j, hj, .inl ⟨h1, by omega, h3⟩⟩
      · exact .inr ⟨j, hj, .inr h1⟩
    | succ k =>
      unfold stepC
      rw [rep_last c n k (by omega)]
      simp only
      have ha : alike (List.replicate n c) k (k + 1) = min 130 (n - (k + 1)) := rep_alikeN c n k (k + 1) (by omega) 127 3 (by omega) (by omega)
      rw [ha]
      by_cases h3 : k + 1 < d
      · rw [if_pos h3]
        refine ⟨d, ts, rfl, ?_⟩
        rcases h with ⟨h1, h2, _⟩ | ⟨j, hj, ⟨h1, _, h3⟩ | h1⟩
        · omega
        · exact .inr ⟨j, hj, .inl ⟨h1, by omega, h3⟩⟩
        · exact .inr ⟨j, hj, .inr h1⟩
      · rw [if_neg h3]
        rcases h with ⟨h1, h2, h4⟩ | ⟨j, hj, ⟨h1, h4, h5⟩ | ⟨h1, h4⟩⟩
        · by_cases hn : n ≤ 4
          · rw [if_neg (by omega)]
            exact ⟨d, ts, rfl, .inl ⟨h1, h2, .inr hn⟩⟩
          · have hk : k = 0 := by omega
            rw [if_pos (by omega)]
            have ho : (encL (ownsL (List.replicate n c) d (k + 1))).length ≤ 2 := by
              have := (owns_spec (List.replicate n c) (k + 1) n (by rw [List.length_replicate]; omega) (by omega) d (by omega)).2.2.2.1
              omega
            have hc : (encL (ts ++ ownsL (List.replicate n c) d (k + 1) ++ [⟨k + 1 - k, min 130 (n - (k + 1)), []⟩])).length ≤ 5 := by
              rw [encL_app, encL_app, encL_one, List.length_append, List.length_append, h2, show (encL ([] : List Tk)).length = 0 from rfl]
              have : (Tk.enc ⟨k + 1 - k, min 130 (n - (k + 1)), []⟩).length = 3 := by
                unfold Tk.enc
                rw [if_neg (by simp only; omega)]
                rfl
              omega
            by_cases h130 : 130 ≤ n - (k + 1)
            · exact ⟨_, _, rfl, .inr ⟨1, by omega, .inl ⟨by omega, by omega, hc⟩⟩⟩
            · exact ⟨_, _, rfl, .inr ⟨0, by omega, .inr ⟨by omega, hc⟩⟩⟩
        · rw [if_pos (.inr (by omega))]
          have ho : ownsL (List.replicate n c) d (k + 1) = [] := ownsL_end (by omega)
          have hc : (encL (ts ++ ownsL (List.replicate n c) d (k + 1) ++ [⟨k + 1 - k, min 130 (n - (k + 1)), []⟩])).length ≤ 5 + 3 * j := by
            rw [ho, List.append_nil, encL_app, encL_one, List.length_append]
            have : (Tk.enc ⟨k + 1 - k, min 130 (n - (k + 1)), []⟩).length = 3 := by
              unfold Tk.enc
              rw [if_neg (by simp only; omega)]
              rfl
            omega
          by_cases h130 : 130 ≤ n - (k + 1)
          · exact ⟨_, _, rfl, .inr ⟨j + 1, by omega, .inl ⟨by omega, by omega, by omega⟩⟩⟩
          · exact ⟨_, _, rfl, .inr ⟨j, by omega, .inr ⟨by omega, hc⟩⟩⟩
        · omega
theorem rep_short (c : UInt8) (n : Nat) (hn : n ≤ 65536) : (packB (List.replicate n c)).length ≤ 12 + n / 20 := by
  obtain ⟨d, ts, hr, h⟩ := rep_run c n (n - 2) (Nat.le_refl _)
  have h3 := putN_len3 hn
  have hd : d ≤ n := by
    rcases h with h | ⟨j, hj, h | h⟩ <;> omega
  obtain ⟨_, _, _, g4, g5⟩ := owns_spec (List.replicate n c) n n (by rw [List.length_replicate]; omega) (Nat.le_refl _) d hd
  unfold packB packL chooseL
  rw [List.length_append, List.length_replicate, hr, encL_app, List.length_append]
  simp only
  rcases h with ⟨h1, h2, h4⟩ | ⟨j, hj, ⟨h1, h4, h5⟩ | ⟨h1, h4⟩⟩
  · rw [h2, show (encL ([] : List Tk)).length = 0 from rfl]
    omega
  · omega
  · rw [g5 h1, show (encL ([] : List Tk)).length = 0 from rfl]
    omega
end Lz
end Go.Proofs.Ytekbmdpokghmmaa
