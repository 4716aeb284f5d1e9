/- Leaves as pages, and pages as leaves, in plain mathematics. -/
import Derived.Test.YtnafalkcgghjgaaGreatDoorSN
namespace Go.Proofs.YtnafalkcgghjgaaGreatDoor
def bytesOf (l : List UInt8) : ByteArray := ⟨l.toArray⟩
theorem bytesOf_list (s : ByteArray) : bytesOf s.data.toList = s := by unfold bytesOf; rfl
theorem bytesOf_size (l : List UInt8) : (bytesOf l).size = l.length := by simp [bytesOf, ByteArray.size]
theorem size_list (s : ByteArray) : s.data.toList.length = s.size := rfl
def encE (p : Pr) : List UInt8 := UInt8.ofNat p.1.size :: UInt8.ofNat p.2.size :: UInt8.ofNat (p.2.size / 256) :: (p.1.data.toList ++ p.2.data.toList)
def encL (l : List Pr) : List UInt8 := l.flatMap encE
theorem encE_len (p : Pr) : (encE p).length = eSz p := by
  simp only [encE, List.length_cons, List.length_append, size_list, eSz]; omega
theorem encL_len (l : List Pr) : (encL l).length = szL l := by
  induction l with
  | nil => rfl
  | cons p l ih => rw [szL_cons, ← ih, ← encE_len p]; simp [encL]
theorem encL_cons (p : Pr) (l : List Pr) : encL (p :: l) = encE p ++ encL l := by simp [encL]
theorem encL_snoc (l : List Pr) (p : Pr) : encL (l ++ [p]) = encL l ++ encE p := by simp [encL]
def pageText (x : Lf) (next : Nat) : List UInt8 := UInt8.ofNat next :: (encL x.es ++ List.replicate (1023 - x.sz) 0)
theorem pageText_len (x : Lf) (next : Nat) (h : x.sz ≤ 1023) : (pageText x next).length = 1024 := by
  simp only [pageText, List.length_cons, List.length_append, List.length_replicate, encL_len]
  unfold Lf.sz at *
  omega
/-- The entry with which bytes begin. -/
def kLen (t : List UInt8) : Nat := (t.getD 0 0).toNat
def vLen (t : List UInt8) : Nat := (t.getD 1 0).toNat + 256 * (t.getD 2 0).toNat
def firstF (t : List UInt8) : Option Pr :=
  if t.length < 3 ∨ 64 < kLen t ∨ 400 < vLen t ∨ t.length < 3 + kLen t + vLen t then none
  else some (bytesOf ((t.drop 3).take (kLen t)), bytesOf ((t.drop (3 + kLen t)).take (vLen t)))
theorem firstF_some {t : List UInt8} {p : Pr} (h : firstF t = some p) : p.1.size = kLen t ∧ p.2.size = vLen t ∧ p.1.size ≤ 64 ∧ p.2.size ≤ 400 ∧ eSz p ≤ t.length := by
  unfold firstF at h
  split at h
  · cases h
  · rename_i hn
    cases h
    simp only [bytesOf_size, List.length_take, List.length_drop, eSz]
    omega
theorem firstF_enc {p : Pr} (h : May p) (t : List UInt8) : firstF (encE p ++ t) = some p := by
  obtain ⟨h1, h2, h3⟩ := h
  have k1 : kLen (encE p ++ t) = p.1.size := by
    show (UInt8.ofNat p.1.size).toNat = _
    rw [UInt8.toNat_ofNat']; omega
  have k2 : vLen (encE p ++ t) = p.2.size := by
    show (UInt8.ofNat p.2.size).toNat + 256 * (UInt8.ofNat (p.2.size / 256)).toNat = _
    rw [UInt8.toNat_ofNat', UInt8.toNat_ofNat']; omega
  have hl : (encE p ++ t).length = eSz p + t.length := by rw [List.length_append, encE_len]
  unfold firstF
  rw [k1, k2, hl, if_neg (by unfold eSz; omega)]
  have e : encE p ++ t = UInt8.ofNat p.1.size :: UInt8.ofNat p.2.size :: UInt8.ofNat (p.2.size / 256) :: (p.1.data.toList ++ (p.2.data.toList ++ t)) := by simp [encE]
  have d3 : (encE p ++ t).drop 3 = p.1.data.toList ++ (p.2.data.toList ++ t) := by rw [e]; rfl
  rw [← List.drop_drop, d3]
  have t1 : (p.1.data.toList ++ (p.2.data.toList ++ t)).take p.1.size = p.1.data.toList := by rw [← size_list p.1]; exact List.take_left
  have t2 : (p.1.data.toList ++ (p.2.data.toList ++ t)).drop p.1.size = p.2.data.toList ++ t := by rw [← size_list p.1]; exact List.drop_left
  have t3 : (p.2.data.toList ++ t).take p.2.size = p.2.data.toList := by rw [← size_list p.2]; exact List.take_left
  rw [t1, t2, t3, bytesOf_list, bytesOf_list]
def allZ (t : List UInt8) : Bool := t.all fun b => b == 0
def after (acc : List Pr) (p : Pr) : Bool := match acc.getLast? with
  | none => true
  | some q => sl q.1 p.1
/-- The entries of a page behind its first byte. -/
def parseG : Nat → List UInt8 → List Pr → Option (List Pr)
  | 0, _, _ => none
  | f + 1, t, acc => if t.headD 0 = 0 then (if allZ t then some acc else none) else match firstF t with
    | none => none
    | some p => if after acc p then parseG f (t.drop (eSz p)) (acc ++ [p]) else none
def parseF (t : List UInt8) : Option (List Pr) := parseG (t.length + 1) t []
theorem srt_snoc {acc : List Pr} {p : Pr} (h : Rise acc) (ha : after acc p = true) : Rise (acc ++ [p]) := by
  unfold Rise
  rw [List.pairwise_append]
  refine ⟨h, by simp, fun a hm b hb => ?_⟩
  simp only [List.mem_singleton] at hb
  subst hb
  rcases List.eq_nil_or_concat acc with e | ⟨I, l, e⟩
  · rw [e] at hm; simp at hm
  · have e' : acc = I ++ [l] := by simpa using e
    rw [e'] at hm ha h
    have hl : sl l.1 b.1 = true := by simpa [after] using ha
    rcases List.mem_append.1 hm with hm | hm
    · exact sl_trans ((srt_app h).2.2 a hm l (by simp)) hl
    · simp only [List.mem_singleton] at hm; rw [hm]; exact hl
theorem kLen_head {t : List UInt8} (h : t.headD 0 ≠ 0) : 1 ≤ kLen t := by
  cases t with
  | nil => simp at h
  | cons b t =>
    simp only [List.headD_cons] at h
    show 1 ≤ b.toNat
    rcases Nat.eq_zero_or_pos b.toNat with e | e
    · exact absurd (UInt8.toNat_inj.1 e) h
    · exact e
theorem first_may {t : List UInt8} {p : Pr} (h0 : t.headD 0 ≠ 0) (h : firstF t = some p) : May p ∧ eSz p ≤ t.length := by
  obtain ⟨h1, h2, h3, h4, h5⟩ := firstF_some h
  exact ⟨⟨by rw [h1]; exact kLen_head h0, h3, h4⟩, h5⟩
theorem parseG_props : ∀ (f : Nat) (t : List UInt8) (acc l : List Pr), parseG f t acc = some l → Rise acc → (∀ p ∈ acc, May p) → Rise l ∧ (∀ p ∈ l, May p) ∧ szL l ≤ szL acc + t.length
  | 0, _, _, _, h, _, _ => by simp [parseG] at h
  | f + 1, t, acc, l, h, hs, hm => by
    rw [parseG] at h
    by_cases h0 : t.headD 0 = 0
    · rw [if_pos h0] at h
      split at h
      · cases h; exact ⟨hs, hm, by omega⟩
      · cases h
    · rw [if_neg h0] at h
      cases hf : firstF t with
      | none => rw [hf] at h; cases h
      | some p =>
        rw [hf] at h
        simp only at h
        split at h
        · rename_i ha
          obtain ⟨hp, hpl⟩ := first_may h0 hf
          have := parseG_props f _ _ l h (srt_snoc hs ha) (fun q hq => by
            rcases List.mem_append.1 hq with hq | hq
            · exact hm q hq
            · simp only [List.mem_singleton] at hq; rw [hq]; exact hp)
          refine ⟨this.1, this.2.1, ?_⟩
          have h3 := this.2.2
          rw [szL_app, szL_cons, szL_nil, List.length_drop] at h3
          omega
        · cases h
theorem parseF_props {t : List UInt8} {l : List Pr} (h : parseF t = some l) : Rise l ∧ (∀ p ∈ l, May p) ∧ szL l ≤ t.length := by
  have := parseG_props _ _ _ _ h List.Pairwise.nil (fun p hp => by simp at hp)
  refine ⟨this.1, this.2.1, ?_⟩
  have h3 := this.2.2
  rw [szL_nil] at h3
  omega
theorem allZ_zero (m : Nat) : allZ (List.replicate m 0) = true := by
  unfold allZ
  rw [List.all_eq_true]
  intro b hb
  have := (List.mem_replicate.1 hb).2
  rw [this]; rfl
theorem parseG_enc : ∀ (es : List Pr) (m f : Nat) (acc : List Pr), Rise (acc ++ es) → (∀ p ∈ es, May p) → es.length < f → parseG f (encL es ++ List.replicate m 0) acc = some (acc ++ es)
  | [], m, f, acc, _, _, hf => by
    obtain ⟨f, rfl⟩ : ∃ g, f = g + 1 := ⟨f - 1, by simp at hf; omega⟩
    rw [parseG]
    have : (encL [] ++ List.replicate m (0 : UInt8)).headD 0 = 0 := by cases m <;> rfl
    rw [if_pos this]
    show (if allZ (List.replicate m 0) then some acc else none) = _
    rw [allZ_zero]
    simp
  | p :: es, m, f, acc, hs, hm, hf => by
    obtain ⟨f, rfl⟩ : ∃ g, f = g + 1 := ⟨f - 1, by omega⟩
    have hp := hm p (List.mem_cons_self ..)
    have e : encL (p :: es) ++ List.replicate m 0 = encE p ++ (encL es ++ List.replicate m 0) := by rw [encL_cons, List.append_assoc]
    have h0 : ¬ (encL (p :: es) ++ List.replicate m (0 : UInt8)).headD 0 = 0 := by
      rw [e]
      show ¬ UInt8.ofNat p.1.size = 0
      intro e0
      have := congrArg UInt8.toNat e0
      rw [UInt8.toNat_ofNat'] at this
      have h1 := hp.1
      have h2 := hp.2.1
      simp at this
      omega
    have ha : after acc p = true := by
      unfold after
      cases hl : acc.getLast? with
      | none => rfl
      | some q =>
        have hq : q ∈ acc := List.mem_of_getLast? hl
        exact (srt_app hs).2.2 q hq p (List.mem_cons_self ..)
    rw [parseG, if_neg h0, e, firstF_enc hp]
    simp only [ha, if_true]
    rw [← encE_len p, List.drop_left, parseG_enc es m f (acc ++ [p]) (by simpa using hs) (fun q hq => hm q (List.mem_cons_of_mem _ hq)) (by simp at hf; omega)]
    simp
theorem parseF_enc {es : List Pr} (m : Nat) (hs : Rise es) (hm : ∀ p ∈ es, May p) : parseF (encL es ++ List.replicate m 0) = some es := by
  have hl := szL_len hm
  refine parseG_enc es m _ [] hs hm ?_
  rw [List.length_append, encL_len]
  omega
def parseP (s : ByteArray) : Option (List Pr) := parseF s.data.toList.tail
def nextP (s : ByteArray) : Nat := (s.data.toList.headD 0).toNat
theorem parse_text {x : Lf} (next : Nat) (hs : Rise x.es) (hm : ∀ p ∈ x.es, May p) : parseP (bytesOf (pageText x next)) = some x.es := parseF_enc _ hs hm
theorem next_text {x : Lf} {next : Nat} (hn : next < 256) : nextP (bytesOf (pageText x next)) = next := by
  show (UInt8.ofNat next).toNat = next
  rw [UInt8.toNat_ofNat']; omega
/-- May a leaf stand behind others? -/
def behindK (l x : Lf) : Bool := match l.es.getLast?, x.es.head? with
  | some p, some q => sl p.1 q.1
  | _, _ => false
def follow (acc : List Lf) (x : Lf) : Bool := match acc.getLast? with
  | none => true
  | some l => decide (1023 < l.sz + x.sz) && behindK l x
def loadG (n : Nat) (P : Nat → ByteArray) : Nat → Nat → List Lf → Option (List Lf)
  | 0, _, _ => none
  | f + 1, page, acc => if n ≤ page then none else match parseP (P page) with
    | none => none
    | some es => if follow acc ⟨(page : Int), es⟩ then (if nextP (P page) = 0 then some (acc ++ [⟨(page : Int), es⟩]) else loadG n P f (nextP (P page)) (acc ++ [⟨(page : Int), es⟩])) else none
def loadF (n : Nat) (P : Nat → ByteArray) : Option (List Lf) := loadG n P (n + 1) 0 []
/-- Leaves that were read so far. -/
structure Ld (n : Nat) (P : Nat → ByteArray) (acc : List Lf) : Prop where
  rd : ∀ x ∈ acc, ∃ i : Nat, x.page = (i : Int) ∧ i < n ∧ parseP (P i) = some x.es
  hd : acc ≠ [] → acc.head?.map Lf.page = some 0
  sz : ∀ x ∈ acc, x.sz ≤ 1023
  adj : Adj acc
  srt : Rise (flat acc)
  may : ∀ p ∈ flat acc, May p
theorem Ld.nil (n : Nat) (P : Nat → ByteArray) : Ld n P [] := ⟨fun x hx => by simp at hx, fun h => absurd rfl h, fun x hx => by simp at hx, fun i a b ha _ => by simp at ha, List.Pairwise.nil, fun p hp => by simp [flat] at hp⟩
theorem Ld.nodup {n : Nat} {P : Nat → ByteArray} {acc : List Lf} (h : Ld n P acc) : (acc.map Lf.page).Nodup := by
  have key : ∀ (i j : Nat) (x y : Lf), i < j → acc[i]? = some x → acc[j]? = some y → x.page ≠ y.page := by
    intro i j x y hij hx hy e
    obtain ⟨a, ha, _, ea⟩ := h.rd x (List.mem_of_getElem? hx)
    obtain ⟨b, hb, _, eb⟩ := h.rd y (List.mem_of_getElem? hy)
    have hab : a = b := by omega
    rw [hab, eb] at ea
    have hes : x.es = y.es := (Option.some.inj ea).symm
    have hjl := (List.getElem?_eq_some_iff.1 hy).1
    have hyd : y ∈ acc.drop (i + 1) := by
      refine List.mem_iff_getElem?.2 ⟨j - (i + 1), ?_⟩
      rw [List.getElem?_drop, show i + 1 + (j - (i + 1)) = j by omega]; exact hy
    have hs := h.srt
    rw [flat_at hx] at hs
    obtain ⟨_, h2, _⟩ := srt_app hs
    obtain ⟨_, _, h3⟩ := srt_app h2
    cases hxe : x.es with
    | nil =>
      have hz : x.sz = 0 := by unfold Lf.sz; rw [hxe]; rfl
      have := h.adj i x _ hx (List.getElem?_eq_getElem (show i + 1 < acc.length by omega))
      have := h.sz _ (List.getElem_mem (show i + 1 < acc.length by omega))
      omega
    | cons p q =>
      have := h3 p (by rw [hxe]; simp) p (List.mem_flatMap.2 ⟨y, hyd, by rw [← hes, hxe]; simp⟩)
      rw [sl_irr] at this
      cases this
  refine nodup_of fun i j q hi hj => ?_
  rw [List.getElem?_map] at hi hj
  cases hx : acc[i]? with
  | none => rw [hx] at hi; simp at hi
  | some x =>
    cases hy : acc[j]? with
    | none => rw [hy] at hj; simp at hj
    | some y =>
      rw [hx] at hi
      rw [hy] at hj
      simp only [Option.map_some, Option.some.injEq] at hi hj
      rcases Nat.lt_trichotomy i j with hij | hij | hij
      · exact absurd (hi.trans hj.symm) (key i j x y hij hx hy)
      · exact hij
      · exact absurd (hj.trans hi.symm) (key j i y x hij hy hx)
theorem Ld.shape {n : Nat} {P : Nat → ByteArray} {acc : List Lf} (h : Ld n P acc) (hne : acc ≠ []) : Shape n acc :=
  { hd := h.hd hne, pg := fun x hx => by obtain ⟨i, hi, hn, _⟩ := h.rd x hx; omega, nd := h.nodup, sz := h.sz, adj := h.adj, srt := h.srt, may := h.may, pos := fun x hx => by obtain ⟨i, hi, hn, _⟩ := h.rd x hx; omega }
theorem Ld.len {n : Nat} {P : Nat → ByteArray} {acc : List Lf} (h : Ld n P acc) : acc.length ≤ n := by
  cases acc with
  | nil => simp
  | cons x l => exact (h.shape (by simp)).len
theorem Ld.step {n : Nat} {P : Nat → ByteArray} {acc : List Lf} (h : Ld n P acc) (hP : ∀ i, i < n → (P i).size = 1024) {page : Nat} (h0 : acc = [] → page = 0) (hp : page < n) {es : List Pr} (he : parseP (P page) = some es) (hf : follow acc ⟨(page : Int), es⟩ = true) : Ld n P (acc ++ [⟨(page : Int), es⟩]) := by
  obtain ⟨p1, p2, p3⟩ := parseF_props he
  have hl : (P page).data.toList.tail.length = 1023 := by rw [List.length_tail, size_list, hP page hp]
  rw [hl] at p3
  have hrd : ∀ x ∈ acc ++ [(⟨(page : Int), es⟩ : Lf)], ∃ i : Nat, x.page = (i : Int) ∧ i < n ∧ parseP (P i) = some x.es := by
    intro x hx
    rcases List.mem_append.1 hx with hx | hx
    · exact h.rd x hx
    · simp only [List.mem_singleton] at hx; rw [hx]; exact ⟨page, rfl, hp, he⟩
  have hsz : ∀ x ∈ acc ++ [(⟨(page : Int), es⟩ : Lf)], x.sz ≤ 1023 := by
    intro x hx
    rcases List.mem_append.1 hx with hx | hx
    · exact h.sz x hx
    · simp only [List.mem_singleton] at hx; rw [hx]; exact p3
  have hmay : ∀ p ∈ flat (acc ++ [(⟨(page : Int), es⟩ : Lf)]), May p := by
    intro p hp
    rw [flat_app, flat_one] at hp
    rcases List.mem_append.1 hp with hp | hp
    · exact h.may p hp
    · exact p2 p hp
  rcases List.eq_nil_or_concat acc with e | ⟨I, l, e⟩
  · subst e
    refine ⟨hrd, fun _ => by rw [h0 rfl]; rfl, hsz, Adj.one _, ?_, hmay⟩
    simpa [flat] using p1
  · have e' : acc = I ++ [l] := by simpa using e
    have hfo : 1023 < l.sz + szL es ∧ behindK l ⟨(page : Int), es⟩ = true := by
      rw [e'] at hf
      simp only [follow, List.getLast?_append, List.getLast?_singleton, Option.some_or, Bool.and_eq_true, decide_eq_true_eq] at hf
      exact hf
    refine ⟨hrd, fun _ => ?_, hsz, ?_, ?_, hmay⟩
    · have := h.hd (by rw [e']; simp)
      rw [e'] at this ⊢
      cases I <;> simpa using this
    · have := h.adj
      rw [e'] at this ⊢
      exact this.snoc hfo.1
    · rw [flat_app, flat_one]
      unfold Rise
      rw [List.pairwise_append]
      refine ⟨h.srt, p1, fun p hp q hq => ?_⟩
      obtain ⟨h1, h2⟩ := hfo
      unfold behindK at h2
      cases hl1 : l.es.getLast? with
      | none => rw [hl1] at h2; simp at h2
      | some a =>
        cases hb : es.head? with
        | none => rw [hl1] at h2; simp [hb] at h2
        | some b =>
          rw [hl1] at h2
          simp only [hb] at h2
          have hs := h.srt
          have hla : l.es = l.es.dropLast ++ [a] := by
            obtain ⟨r, hr⟩ := List.getLast?_eq_some_iff.1 hl1
            rw [hr]; simp
          have hfl : flat acc = (flat I ++ l.es.dropLast) ++ [a] := by rw [e', flat_app, flat_one, List.append_assoc, ← hla]
          rw [hfl] at hs hp
          have hpa : sl p.1 b.1 = true := by
            rcases List.mem_append.1 hp with hp | hp
            · exact sl_trans ((srt_app hs).2.2 p hp a (by simp)) h2
            · simp only [List.mem_singleton] at hp; rw [hp]; exact h2
          cases es with
          | nil => simp at hb
          | cons c r =>
            simp only [List.head?_cons, Option.some.injEq] at hb
            subst hb
            rcases List.mem_cons.1 hq with rfl | hq
            · exact hpa
            · exact sl_trans hpa ((List.pairwise_cons.1 p1).1 q hq)
/-- Pages that have leaves. -/
def nextOf (L : List Lf) (i : Nat) : Nat := match L[i + 1]? with
  | some y => y.page.toNat
  | none => 0
def Enc (P : Nat → ByteArray) (L : List Lf) : Prop := ∀ (i : Nat) (x : Lf), L[i]? = some x → P x.page.toNat = bytesOf (pageText x (nextOf L i))
theorem flat_sub {L : List Lf} {x : Lf} (hx : x ∈ L) {p : Pr} (hp : p ∈ x.es) : p ∈ flat L := List.mem_flatMap.2 ⟨x, hx, hp⟩
theorem Shape.leaf {n : Nat} {L : List Lf} (h : Pre n L) {i : Nat} {x : Lf} (hx : L[i]? = some x) : Rise x.es ∧ ∀ p ∈ x.es, May p := by
  have hs := h.srt
  rw [flat_at hx] at hs
  exact ⟨(srt_app (srt_app hs).2.1).1, fun p hp => h.may p (flat_sub (List.mem_of_getElem? hx) hp)⟩
theorem enc_follow {n : Nat} {L : List Lf} (h : Shape n L) {i : Nat} {x : Lf} (hx : L[i]? = some x) : follow (L.take i) x = true := by
  unfold follow
  cases hl : (L.take i).getLast? with
  | none => rfl
  | some l =>
    have hxl := (List.getElem?_eq_some_iff.1 hx).1
    have hi0 : 0 < i := by
      rcases Nat.eq_zero_or_pos i with rfl | h
      · simp at hl
      · exact h
    have hll : L[i - 1]? = some l := by
      rw [List.getLast?_eq_getElem?, List.length_take, List.getElem?_take, if_pos (by omega)] at hl
      rw [← hl]; congr 1; omega
    have ha := h.adj (i - 1) l x hll (by rw [show i - 1 + 1 = i by omega]; exact hx)
    have hn1 := h.full (i - 1) l hll (by omega)
    have hn2 := h.full i x hx (by omega)
    simp only [Bool.and_eq_true, decide_eq_true_eq]
    refine ⟨ha, ?_⟩
    have hs := h.srt
    rw [flat_at hll] at hs
    obtain ⟨_, h2, _⟩ := srt_app hs
    obtain ⟨_, _, h3⟩ := srt_app h2
    unfold behindK
    cases e1 : l.es.getLast? with
    | none => exact absurd (List.getLast?_eq_none_iff.1 e1) hn1
    | some p =>
      cases e2 : x.es.head? with
      | none => exact absurd (List.head?_eq_none_iff.1 e2) hn2
      | some q =>
        refine h3 p (List.mem_of_getLast? e1) q (List.mem_flatMap.2 ⟨x, ?_, List.mem_of_mem_head? e2⟩)
        refine List.mem_iff_getElem?.2 ⟨0, ?_⟩
        rw [List.getElem?_drop, show i - 1 + 1 + 0 = i by omega]; exact hx
theorem loadG_enc {n : Nat} (hn : n ≤ 128) {P : Nat → ByteArray} {L : List Lf} (h : Shape n L) (he : Enc P L) : ∀ (m k : Nat), m = L.length - k → ∀ x, L[k]? = some x → ∀ f, n - k < f → loadG n P f x.page.toNat (L.take k) = some L
  | m, k, hm, x, hx, f, hf => by
    obtain ⟨f, rfl⟩ : ∃ g, f = g + 1 := ⟨f - 1, by omega⟩
    have hxl := (List.getElem?_eq_some_iff.1 hx).1
    have hxm := List.mem_of_getElem? hx
    have hp0 := h.pos x hxm
    have hp1 := (h.pg x hxm).2
    have hll := h.len
    obtain ⟨hs, hmy⟩ := Shape.leaf h.toPre hx
    have hnx : nextOf L k < 256 := by
      unfold nextOf
      cases hy : L[k + 1]? with
      | none => simp
      | some y =>
        have := (h.pg y (List.mem_of_getElem? hy)).2
        simp only; omega
    have hxe : (⟨((x.page.toNat : Nat) : Int), x.es⟩ : Lf) = x := by
      cases x with
      | mk p es => simp only at hp0 ⊢; rw [show ((p.toNat : Nat) : Int) = p by omega]
    rw [loadG, if_neg (by omega), he k x hx, parse_text _ hs hmy]
    simp only
    rw [hxe, enc_follow h hx, if_pos rfl, next_text hnx, ← take_snoc hx]
    cases hy : L[k + 1]? with
    | none =>
      have : nextOf L k = 0 := by unfold nextOf; rw [hy]
      rw [if_pos this, List.take_of_length_le (by rw [List.getElem?_eq_none_iff] at hy; exact hy)]
    | some y =>
      have e : nextOf L k = y.page.toNat := by unfold nextOf; rw [hy]
      have hyl := (List.getElem?_eq_some_iff.1 hy).1
      have hy0 : y.page ≠ 0 := by
        intro e0
        have h0 := h.hd
        cases hL0 : L with
        | nil => rw [hL0] at h0; simp at h0
        | cons z Z =>
          rw [hL0] at h0
          simp only [List.head?_cons, Option.map_some, Option.some.injEq] at h0
          have := nodup_at h.nd (i := 0) (j := k + 1) (x := 0) (by rw [hL0]; simp [h0]) (by simp [hy, e0])
          omega
      have hyp := h.pos y (List.mem_of_getElem? hy)
      rw [if_neg (by omega), e]
      exact loadG_enc hn h he (m - 1) (k + 1) (by omega) y hy f (by omega)
theorem loadF_enc {n : Nat} (hn : n ≤ 128) {P : Nat → ByteArray} {L : List Lf} (h : Shape n L) (he : Enc P L) : loadF n P = some L := by
  have h0 := h.hd
  cases hL0 : L with
  | nil => rw [hL0] at h0; simp at h0
  | cons z Z =>
    rw [hL0] at h0
    simp only [List.head?_cons, Option.map_some, Option.some.injEq] at h0
    have := loadG_enc hn h he L.length 0 (by omega) z (by rw [hL0]; rfl) (n + 1) (by omega)
    rw [h0] at this
    rw [← hL0]
    exact this
theorem shape_empty {n : Nat} (hn : 1 ≤ n) : Shape n [⟨0, []⟩] :=
  { hd := rfl, pg := fun x hx => by simp at hx; subst hx; simp only; omega, nd := by simp, sz := fun x hx => by simp at hx; subst hx; simp [Lf.sz, szL], adj := Adj.one _, srt := List.Pairwise.nil, may := fun p hp => by simp [flat] at hp, pos := fun x hx => by simp at hx; subst hx; simp }
theorem enc_empty {P : Nat → ByteArray} (h : P 0 = bytesOf (List.replicate 1024 0)) : Enc P [⟨0, []⟩] := by
  intro i x hx
  cases i with
  | zero =>
    simp only [List.getElem?_cons_zero, Option.some.injEq] at hx
    subst hx
    show P 0 = _
    rw [h]
    rfl
  | succ i => simp at hx
end Go.Proofs.YtnafalkcgghjgaaGreatDoor
