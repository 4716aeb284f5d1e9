/- Bytes made shorter, as mathematics. -/
import Derived.Test.YtekbmdpokghmmaaNM
namespace Go.Proofs.Ytekbmdpokghmmaa
namespace Lz
/-- A token: bytes ahead, how many, bytes for themselves. -/
structure Tk where
  b : Nat
  s : Nat
  d : List UInt8
def Tk.told (t : Tk) : Nat := t.d.length + t.s
def Tk.Own (t : Tk) : Prop := 1 ≤ t.d.length ∧ t.d.length ≤ 128 ∧ t.b = 0 ∧ t.s = 0
def Tk.Ear (t : Tk) : Prop := t.d = [] ∧ 3 ≤ t.s ∧ t.s ≤ 130 ∧ 1 ≤ t.b ∧ t.b ≤ 65536
def Tk.Ok (t : Tk) : Prop := t.Own ∨ t.Ear
def Tk.enc (t : Tk) : List UInt8 := if t.s = 0 then UInt8.ofNat (t.d.length - 1) :: t.d else [UInt8.ofNat (t.s + 125), UInt8.ofNat ((t.b - 1) / 256), UInt8.ofNat ((t.b - 1) % 256)]
theorem Tk.Ok.told1 {t : Tk} (h : t.Ok) : 1 ≤ t.told := by
  unfold Tk.told
  rcases h with h | h
  · have := h.1; omega
  · have := h.2.1; omega
theorem Tk.Ok.told_le {t : Tk} (h : t.Ok) : t.told ≤ 130 := by
  unfold Tk.told
  rcases h with h | h
  · have := h.2.1; have := h.2.2.2; omega
  · have := h.2.2.1; rw [h.1]; simp; omega
theorem Tk.Own.enc {t : Tk} (h : t.Own) : t.enc = UInt8.ofNat (t.d.length - 1) :: t.d := if_pos h.2.2.2
theorem Tk.Ear.enc {t : Tk} (h : t.Ear) : t.enc = [UInt8.ofNat (t.s + 125), UInt8.ofNat ((t.b - 1) / 256), UInt8.ofNat ((t.b - 1) % 256)] := if_neg (by have := h.2.1; omega)
theorem Tk.Ok.enc1 {t : Tk} (h : t.Ok) : t.enc ≠ [] := by
  rcases h with h | h
  · rw [h.enc]; simp
  · rw [h.enc]; simp
theorem Tk.Ok.enc_len {t : Tk} (h : t.Ok) : t.enc.length ≤ 129 := by
  rcases h with h | h
  · rw [h.enc]; have := h.2.1; simp; omega
  · rw [h.enc]; simp
theorem toNat_of {n : Nat} (h : n < 256) : (UInt8.ofNat n).toNat = n := by simp; omega
/-- The token that bytes begin with. -/
def firstT : List UInt8 → Option (Tk × Nat)
  | [] => none
  | c :: r =>
    if c.toNat < 128 then (if r.length < c.toNat + 1 then none else some (⟨0, 0, r.take (c.toNat + 1)⟩, c.toNat + 2))
    else match r with
      | h :: l :: _ => some (⟨256 * h.toNat + l.toNat + 1, c.toNat - 125, []⟩, 3)
      | _ => none
theorem first_enc {t : Tk} (h : t.Ok) (rest : List UInt8) : firstT (t.enc ++ rest) = some (t, t.enc.length) := by
  obtain ⟨b, s, d⟩ := t
  rcases h with h | h
  · rw [h.enc]
    obtain ⟨h1, h2, h3, h4⟩ := h
    simp only at h1 h2 h3 h4
    subst h3 h4
    simp only [List.cons_append, firstT, toNat_of (show d.length - 1 < 256 by omega)]
    rw [if_pos (by omega), if_neg (by simp; omega), show d.length - 1 + 1 = d.length by omega, List.take_left]
    simp only [List.length_cons]
    rw [show d.length - 1 + 2 = d.length + 1 by omega]
  · rw [h.enc]
    obtain ⟨h1, h2, h3, h4, h5⟩ := h
    simp only at h1 h2 h3 h4 h5
    subst h1
    simp only [List.cons_append, List.nil_append, firstT, toNat_of (show s + 125 < 256 by omega), toNat_of (show (b - 1) / 256 < 256 by omega), toNat_of (show (b - 1) % 256 < 256 by omega)]
    rw [if_neg (by omega)]
    simp only [List.length_cons, List.length_nil, Option.some.injEq, Prod.mk.injEq, Tk.mk.injEq, and_true]
    omega
theorem first_some {bs : List UInt8} {t : Tk} {n : Nat} (h : firstT bs = some (t, n)) : t.Ok ∧ t.enc ++ bs.drop n = bs ∧ n = t.enc.length := by
  cases bs with
  | nil => cases h
  | cons c r =>
    have hc := UInt8.toNat_lt c
    simp only [firstT] at h
    split at h
    · next h1 =>
      split at h
      · cases h
      · next h2 =>
        simp only [Option.some.injEq, Prod.mk.injEq] at h
        obtain ⟨rfl, rfl⟩ := h
        have hl : (r.take (c.toNat + 1)).length = c.toNat + 1 := by rw [List.length_take]; omega
        have ho : Tk.Own ⟨0, 0, r.take (c.toNat + 1)⟩ := ⟨by simp only [hl]; omega, by simp only [hl]; omega, rfl, rfl⟩
        refine ⟨.inl ho, ?_, ?_⟩
        · rw [ho.enc]
          simp only [hl, Nat.add_sub_cancel, UInt8.ofNat_toNat, List.cons_append, List.drop_succ_cons, List.take_append_drop]
        · rw [ho.enc]; simp only [List.length_cons, hl]
    · next h1 =>
      split at h
      · next hh l r' =>
        simp only [Option.some.injEq, Prod.mk.injEq] at h
        obtain ⟨rfl, rfl⟩ := h
        have h2 := UInt8.toNat_lt hh
        have h3 := UInt8.toNat_lt l
        have ho : Tk.Ear ⟨256 * hh.toNat + l.toNat + 1, c.toNat - 125, []⟩ := ⟨rfl, by simp only; omega, by simp only; omega, by simp only; omega, by simp only; omega⟩
        refine ⟨.inr ho, ?_, ?_⟩
        · rw [ho.enc]
          simp only [Nat.add_sub_cancel]
          rw [show c.toNat - 125 + 125 = c.toNat by omega, show (256 * hh.toNat + l.toNat) / 256 = hh.toNat by omega, show (256 * hh.toNat + l.toNat) % 256 = l.toNat by omega]
          simp
        · rw [ho.enc]; rfl
      · cases h
/-- Tokens that can be told behind so many bytes. -/
def Goes (size : Nat) : Nat → List Tk → Prop
  | _, [] => True
  | done, t :: ts => t.Ok ∧ t.b ≤ done ∧ done + t.told ≤ size ∧ Goes size (done + t.told) ts
def toldL : List Tk → Nat
  | [] => 0
  | t :: ts => t.told + toldL ts
def encL (ts : List Tk) : List UInt8 := ts.flatMap Tk.enc
theorem toldL_app (a b : List Tk) : toldL (a ++ b) = toldL a + toldL b := by
  induction a with
  | nil => simp [toldL]
  | cons t a ih => simp only [List.cons_append, toldL, ih]; omega
theorem toldL_one (t : Tk) : toldL [t] = t.told := by simp [toldL]
theorem encL_app (a b : List Tk) : encL (a ++ b) = encL a ++ encL b := by simp [encL]
theorem encL_one (t : Tk) : encL [t] = t.enc := by simp [encL]
theorem Goes.app {size : Nat} {a b : List Tk} : ∀ {done : Nat}, Goes size done (a ++ b) ↔ Goes size done a ∧ Goes size (done + toldL a) b := by
  induction a with
  | nil => intro done; simp [Goes, toldL]
  | cons t a ih =>
    intro done
    simp only [List.cons_append, Goes, ih, toldL, Nat.add_assoc, and_assoc]
theorem Goes.ok {size : Nat} {ts : List Tk} : ∀ {done : Nat}, Goes size done ts → ∀ t ∈ ts, t.Ok := by
  induction ts with
  | nil => intro _ _ t ht; cases ht
  | cons u ts ih =>
    intro done h t ht
    rcases List.mem_cons.1 ht with rfl | ht
    · exact h.1
    · exact ih h.2.2.2 t ht
theorem Goes.le {size : Nat} {ts : List Tk} : ∀ {done : Nat}, Goes size done ts → done ≤ size → done + toldL ts ≤ size := by
  induction ts with
  | nil => intro done _ h; simpa [toldL] using h
  | cons u ts ih =>
    intro done h _
    have := ih h.2.2.2 h.2.2.1
    simp only [toldL]
    omega
theorem told0 {ts : List Tk} (h : ∀ t ∈ ts, t.Ok) (h0 : toldL ts = 0) : ts = [] := by
  cases ts with
  | nil => rfl
  | cons t ts =>
    have := (h t List.mem_cons_self).told1
    simp only [toldL] at h0
    omega
theorem cancel : ∀ (ts us : List Tk), (∀ t ∈ ts, t.Ok) → (∀ t ∈ us, t.Ok) → ∀ rest, encL ts ++ rest = encL us → ∃ vs, us = ts ++ vs ∧ rest = encL vs
  | [], us, _, _, rest, h => ⟨us, rfl, by simpa [encL] using h⟩
  | t :: ts, [], h1, _, rest, h => by
    have h2 := (h1 t List.mem_cons_self).enc1
    exfalso
    simp [encL] at h
    exact h2 h.1
  | t :: ts, u :: us, h1, h2, rest, h => by
    have e1 : encL (t :: ts) = t.enc ++ encL ts := by simp [encL]
    have e2 : encL (u :: us) = u.enc ++ encL us := by simp [encL]
    rw [e1, e2, List.append_assoc] at h
    have f1 := first_enc (h1 t List.mem_cons_self) (encL ts ++ rest)
    have f2 := first_enc (h2 u List.mem_cons_self) (encL us)
    rw [h, f2] at f1
    simp only [Option.some.injEq, Prod.mk.injEq] at f1
    obtain ⟨rfl, _⟩ := f1
    have h' := List.append_cancel_left h
    obtain ⟨vs, e3, e4⟩ := cancel ts us (fun x hx => h1 x (List.mem_cons_of_mem _ hx)) (fun x hx => h2 x (List.mem_cons_of_mem _ hx)) rest h'
    exact ⟨vs, by rw [e3]; rfl, e4⟩
/-- Bytes that have just these tokens, which tell so many bytes. -/
structure Right (size : Nat) (bs : List UInt8) (ts : List Tk) : Prop where
  e : bs = encL ts
  g : Goes size 0 ts
  n : toldL ts = size
theorem Right.unique {size : Nat} {bs : List UInt8} {ts us : List Tk} (h : Right size bs ts) (k : Right size bs us) : ts = us := by
  obtain ⟨vs, e1, e2⟩ := cancel ts us h.g.ok k.g.ok [] (by rw [List.append_nil, ← h.e, ← k.e])
  have h1 := k.n
  have h2 := h.n
  rw [e1, toldL_app] at h1
  have : vs = [] := told0 (fun t ht => k.g.ok t (by rw [e1]; exact List.mem_append_right _ ht)) (by omega)
  rw [e1, this, List.append_nil]
theorem right_no {size : Nat} {bs rest : List UInt8} {ts : List Tk} (e : bs = encL ts ++ rest) (g : Goes size 0 ts) (hr : rest ≠ []) (hf : ∀ t n, firstT rest = some (t, n) → ¬ (t.b ≤ toldL ts ∧ toldL ts + t.told ≤ size)) : ∀ us, ¬ Right size bs us := by
  intro us k
  obtain ⟨vs, e1, e2⟩ := cancel ts us g.ok k.g.ok rest (by rw [← e, ← k.e])
  cases vs with
  | nil => exact hr (by simpa [encL] using e2)
  | cons v vs =>
    have hg := k.g
    rw [e1, Goes.app] at hg
    have h1 := hg.2
    have h2 := first_enc h1.1 (encL vs)
    rw [show encL (v :: vs) = v.enc ++ encL vs by simp [encL]] at e2
    rw [← e2] at h2
    exact hf v _ h2 ⟨by have := h1.2.1; omega, by have := h1.2.2.1; omega⟩
theorem right_end {size : Nat} {bs : List UInt8} {ts : List Tk} (e : bs = encL ts) (g : Goes size 0 ts) (hn : toldL ts ≠ size) : ∀ us, ¬ Right size bs us := by
  intro us k
  obtain ⟨vs, e1, e2⟩ := cancel ts us g.ok k.g.ok [] (by rw [List.append_nil, ← e, ← k.e])
  have : vs = [] := by
    cases vs with
    | nil => rfl
    | cons v vs =>
      have := (k.g.ok v (by rw [e1]; simp)).enc1
      exfalso
      simp [encL] at e2
      exact this e2.1
  rw [this, List.append_nil] at e1
  rw [← e1] at hn
  exact hn k.n
/-- Copies from so many bytes ahead. -/
def cpy (b : Nat) : Nat → List UInt8 → List UInt8
  | 0, o => o
  | n + 1, o => cpy b n (o ++ [o.getD (o.length - b) 0])
theorem cpy_len (b n : Nat) : ∀ o, (cpy b n o).length = o.length + n := by
  induction n with
  | zero => intro o; rfl
  | succ n ih => intro o; rw [cpy, ih]; simp; omega
theorem cpy_snoc (b n : Nat) : ∀ o, cpy b (n + 1) o = cpy b n o ++ [(cpy b n o).getD ((cpy b n o).length - b) 0] := by
  induction n with
  | zero => intro o; rfl
  | succ n ih => intro o; rw [cpy, ih]; rfl
def tellT (o : List UInt8) (t : Tk) : List UInt8 := cpy t.b t.s (o ++ t.d)
theorem tellT_len (o : List UInt8) (t : Tk) : (tellT o t).length = o.length + t.told := by
  rw [tellT, cpy_len, List.length_append, Tk.told]; omega
def outL (ts : List Tk) : List UInt8 := ts.foldl tellT []
theorem outL_snoc (ts : List Tk) (t : Tk) : outL (ts ++ [t]) = tellT (outL ts) t := by simp [outL]
theorem foldT_len (ts : List Tk) : ∀ o, (ts.foldl tellT o).length = o.length + toldL ts := by
  induction ts with
  | nil => intro o; rfl
  | cons t ts ih => intro o; rw [List.foldl_cons, ih, tellT_len, toldL]; omega
theorem outL_len (ts : List Tk) : (outL ts).length = toldL ts := by rw [outL, foldT_len]; simp
/-- The number that packed bytes begin with, and the place behind it. -/
def begL (bs : List UInt8) : Option (Nat × Nat) := if (getL bs 0 0).2.2 = 0 ∧ (getL bs 0 0).1 ≤ 65536 then some ((getL bs 0 0).1, (getL bs 0 0).2.1) else none
theorem begL_put {n : Nat} (h : n ≤ 65536) (rest : List UInt8) : begL (putN n ++ rest) = some (n, (putN n).length) := by
  unfold begL
  rw [getL_back n (by omega)]
  exact if_pos ⟨rfl, h⟩
theorem begL_cut (n k : Nat) (hn : n < 2 ^ 64) (h : k < (putN n).length) : begL ((putN n).take k) = none := by
  unfold begL
  rw [getL_cut n 0 0 k (by have := putN_le10 n hn; omega) h]
  exact if_neg (by simp)
theorem begL_le {bs : List UInt8} {n k : Nat} (h : begL bs = some (n, k)) : n ≤ 65536 ∧ k ≤ bs.length := by
  unfold begL at h
  split at h
  · next h1 =>
    simp only [Option.some.injEq, Prod.mk.injEq] at h
    obtain ⟨a, b, c, hg⟩ : ∃ a b c, getL bs 0 0 = (a, b, c) := ⟨_, _, _, rfl⟩
    rw [hg] at h1 h
    simp only at h1 h
    obtain ⟨rfl, hle⟩ := h1
    obtain ⟨m, _, _, h3, h4, _, _⟩ := getL_least bs 0 0 a b hg (by omega)
    omega
  · cases h
theorem putN_len3 {n : Nat} (h : n ≤ 65536) : (putN n).length ≤ 3 := by
  by_cases h1 : n < 128
  · rw [putN_small h1]; simp
  · rw [putN_more h1]
    by_cases h2 : n / 128 < 128
    · rw [putN_small h2]; simp
    · rw [putN_more h2, putN_small (by omega)]; simp
/-- What packed bytes tell: their tokens. -/
def Whole (bs : List UInt8) (n : Nat) (ts : List Tk) : Prop := ∃ k, begL bs = some (n, k) ∧ Right n (bs.drop k) ts
theorem Whole.unique {bs : List UInt8} {n m : Nat} {ts us : List Tk} (h : Whole bs n ts) (k : Whole bs m us) : n = m ∧ ts = us := by
  obtain ⟨i, h1, h2⟩ := h
  obtain ⟨j, k1, k2⟩ := k
  rw [h1] at k1
  simp only [Option.some.injEq, Prod.mk.injEq] at k1
  obtain ⟨rfl, rfl⟩ := k1
  exact ⟨rfl, h2.unique k2⟩
def packL (n : Nat) (ts : List Tk) : List UInt8 := putN n ++ encL ts
theorem whole_pack {n : Nat} {ts : List Tk} (hn : n ≤ 65536) (g : Goes n 0 ts) (ht : toldL ts = n) : Whole (packL n ts) n ts :=
  ⟨_, begL_put hn _, by unfold packL; rw [List.drop_left], g, ht⟩
theorem cut_no {n : Nat} {ts : List Tk} (hn : n ≤ 65536) (g : Goes n 0 ts) (ht : toldL ts = n) {c : Nat} (hc : c < (packL n ts).length) : ∀ m us, ¬ Whole ((packL n ts).take c) m us := by
  rintro m us ⟨k, h1, h2⟩
  unfold packL at h1 h2 hc
  by_cases hp : c < (putN n).length
  · rw [List.take_append_of_le_length (by omega)] at h1
    rw [begL_cut n c (by omega) hp] at h1
    cases h1
  · rw [List.take_append, List.take_of_length_le (by omega)] at h1 h2
    rw [begL_put hn] at h1
    simp only [Option.some.injEq, Prod.mk.injEq] at h1
    obtain ⟨rfl, rfl⟩ := h1
    rw [List.drop_left] at h2
    rw [List.length_append] at hc
    obtain ⟨vs, e1, e2⟩ := cancel us ts h2.g.ok g.ok ((encL ts).drop (c - (putN n).length)) (by rw [← h2.e, List.take_append_drop])
    have h3 := h2.n
    rw [e1, toldL_app] at ht
    have h4 : vs = [] := told0 (fun t ht => g.ok t (by rw [e1]; exact List.mem_append_right _ ht)) (by omega)
    rw [h4] at e2
    have e3 := congrArg List.length e2
    rw [List.length_drop, show (encL ([] : List Tk)).length = 0 from rfl] at e3
    omega
theorem more_no {n : Nat} {ts : List Tk} (hn : n ≤ 65536) (g : Goes n 0 ts) (ht : toldL ts = n) (c : UInt8) : ∀ m us, ¬ Whole (packL n ts ++ [c]) m us := by
  rintro m us ⟨k, h1, h2⟩
  unfold packL at h1 h2
  rw [List.append_assoc, begL_put hn] at h1
  simp only [Option.some.injEq, Prod.mk.injEq] at h1
  obtain ⟨rfl, rfl⟩ := h1
  rw [List.append_assoc, List.drop_left] at h2
  obtain ⟨vs, e1, e2⟩ := cancel ts us g.ok h2.g.ok [c] h2.e
  have h3 := h2.n
  rw [e1, toldL_app] at h3
  have h4 : vs = [] := told0 (fun t ht => h2.g.ok t (by rw [e1]; exact List.mem_append_right _ ht)) (by omega)
  rw [h4] at e2
  simp [encL] at e2
end Lz
end Go.Proofs.Ytekbmdpokghmmaa
