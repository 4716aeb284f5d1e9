/- Walks over the document's number and Decode. -/
import Derived.Test.YtcmdcmbiilfngabDoorLC
namespace Go.Proofs.YtcmdcmbiilfngabDoor
open Go.RowKit
def KD62 : Nat := 4611686018427387904
set_option maxRecDepth 100000 in
set_option maxHeartbeats 1000000 in
theorem rnum_any (s : ByteArray) (p : Int) (n : Nat) (q : Int) (er : Nat) (hr : getAt s.data.toList p = (n, q, er)) (w : World) (hp : inP s.data.toList p) : Calls Tryd.prog 20 #[.string s, .int .i64 p] w fun e w' => e = .returned (.tuple #[.int .i64 ((min n KD62 : Nat) : Int), .int .i64 q, .int .i64 (er : Int)]) ∧ w' = w := by
  have HG : Calls Tryd.prog 43 #[.string s, .int .i64 p] w fun e w' => e = .returned (.tuple #[.int .u64 (n : Int), .int .i64 q, .int .i64 (er : Int)]) ∧ w' = w := rget3 s.data.toList p n q er hr w hp.2.2 ⟨hp.1, hp.2.1⟩
  by_cases h : KD62 < n
  · have hm : min n KD62 = KD62 := by omega
    rw [hm]
    unfold KD62 at h ⊢
    have k : (4611686018427387904 : Int) < (n : Int) := by omega
    clear hm hr
    go_enter Tryd.func20, Tryd.ntmps20
    go_wp2_with fail
    refine HG.mono ?_
    rintro e V ⟨rfl, hV⟩
    subst V
    go_wp2
    refine bodyPost_ret (v := .tuple #[.int .i64 ((4611686018427387904 : Nat) : Int), .int .i64 q, .int .i64 (er : Int)]) ?_ rfl ⟨rfl, rfl⟩
    simp [results, go_sem]
  · have hm : min n KD62 = n := by omega
    rw [hm]
    unfold KD62 at h
    have k : ¬ (4611686018427387904 : Int) < (n : Int) := by omega
    have wn : IntKind.i64.wrap (n : Int) = (n : Int) := by rw [IntKind.wrap_i64]; omega
    clear hm hr
    go_enter Tryd.func20, Tryd.ntmps20
    go_wp2_with fail
    refine HG.mono ?_
    rintro e V ⟨rfl, hV⟩
    subst V
    go_wp2
    refine bodyPost_ret (v := .tuple #[.int .i64 (n : Int), .int .i64 q, .int .i64 (er : Int)]) ?_ rfl ⟨rfl, rfl⟩
    simp [results, go_sem]
theorem cavsAt_stop {K : Nat} {bs : List UInt8} {p : Int} {i e : Nat} (h : cavsAt K bs p i = .error e) : ∀ j, cavsAt K bs p (i + j) = .error e
  | 0 => h
  | j + 1 => by
    rw [← Nat.add_assoc]
    unfold cavsAt
    rw [cavsAt_stop h j]
theorem rest_stop {K : Nat} {bs : List UInt8} {p : Int} {i e m1 m2 m3 : Nat} (h : cavsAt K bs p i = .error e) (hi : i ≤ m3) : restAt K bs m1 m2 m3 p = .error e := by
  have h2 := cavsAt_stop h (m3 - i)
  rw [show i + (m3 - i) = m3 by omega] at h2
  unfold restAt
  rw [h2]
theorem cavs_next {K : Nat} {bs : List UInt8} {p : Int} {i : Nat} {l : List Cv} {q : Int} (h : cavsAt K bs p i = .ok (l, q)) {t : List UInt8} {q1 : Int} {f1 : Nat} (h1 : textAt bs q 32 = (t, q1, f1)) :
    (f1 ≠ 0 → cavsAt K bs p (i + 1) = .error f1) ∧ (f1 = 0 → ∀ n2 q2 f2, getAt bs q1 = (n2, q2, f2) → (f2 ≠ 0 → cavsAt K bs p (i + 1) = .error f2) ∧ (f2 = 0 → ∀ n3 q3 f3, getAt bs q2 = (n3, q3, f3) → (f3 ≠ 0 → cavsAt K bs p (i + 1) = .error f3) ∧ (f3 = 0 → cavsAt K bs p (i + 1) = .ok (l ++ [⟨baOf t, ((min n2 K : Nat) : Int), ((min n3 K : Nat) : Int)⟩], q3)))) := by
  have e : cavsAt K bs p (i + 1) = (match cavAt K bs q with | .error e => .error e | .ok (c, r) => .ok (l ++ [c], r)) := by
    conv => lhs; unfold cavsAt
    rw [h]
    rfl
  rw [e]
  unfold cavAt
  rw [h1]
  simp only
  refine ⟨fun x => by rw [if_pos x], fun x n2 q2 f2 h2 => ?_⟩
  rw [if_neg (by omega), h2]
  simp only
  refine ⟨fun x => by rw [if_pos x], fun x n3 q3 f3 h3 => ?_⟩
  rw [if_neg (by omega), h3]
  simp only
  refine ⟨fun x => by rw [if_pos x], fun x => by rw [if_neg (by omega)]⟩
theorem getAt_in2 {bs : List UInt8} {p : Int} (h : bs.length ≤ 9223372036854775807) {n : Nat} {q : Int} {e : Nat} (hg : getAt bs p = (n, q, e)) : inP bs q := by
  have := getAt_pl bs p
  rw [hg] at this
  exact ⟨by simp only at this; omega, by simp only at this; omega, h⟩
theorem textAt_in2 {bs : List UInt8} {p m : Int} (h : bs.length ≤ 9223372036854775807) {t : List UInt8} {q : Int} {e : Nat} (hg : textAt bs p m = (t, q, e)) : inP bs q := by
  have := textAt_pl bs p m
  rw [hg] at this
  exact ⟨by simp only at this; omega, by simp only at this; omega, h⟩
theorem cavsAt_paths {K : Nat} {bs : List UInt8} {p : Int} (hl : bs.length ≤ 9223372036854775807) : ∀ i l q, cavsAt K bs p i = .ok (l, q) → ∀ c ∈ l, c.path.size ≤ 9223372036854775807
  | 0, l, q, h => by cases h; intro c hc; cases hc
  | i + 1, l, q, h => by
    unfold cavsAt at h
    cases hc : cavsAt K bs p i with
    | error e => rw [hc] at h; cases h
    | ok r =>
      obtain ⟨l1, q1⟩ := r
      rw [hc] at h
      simp only at h
      cases hd : cavAt K bs q1 with
      | error e => rw [hd] at h; cases h
      | ok r2 =>
        obtain ⟨c, s⟩ := r2
        rw [hd] at h
        cases h
        intro d hdm
        rcases List.mem_append.1 hdm with hdm | hdm
        · exact cavsAt_paths hl i l1 q1 hc d hdm
        · rw [List.mem_singleton.1 hdm]
          unfold cavAt at hd
          split at hd
          · cases hd
          · split at hd
            · cases hd
            · split at hd
              · cases hd
              · cases hd
                have h9 := rdT_len (bs := bs) (p := q1) (m := 32) (e := 0)
                unfold rdT at h9
                rw [if_neg (by simp)] at h9
                show (baOf (textAt bs q1 32).1).size ≤ _
                unfold baOf ByteArray.size
                simp only [List.size_toArray]
                omega
set_option maxRecDepth 100000 in
set_option maxHeartbeats 8000000 in
theorem rdec_any (s : ByteArray) (bs : List UInt8) (hs : s.data.toList = bs) (p : Int) (hp : inP bs p) (w : World) : Calls Tryd.prog 7 #[.string s, .int .i64 p] w fun e w' => DeTo w (decAt KD62 bs p) e w' := by
  have hlb := hp.2.2
  obtain ⟨m1, p1, e1, h1⟩ : ∃ n q e, getAt bs p = (n, q, e) := ⟨_, _, _, rfl⟩
  have ip1 := getAt_in2 hlb h1
  obtain ⟨m2, p2, e2, h2⟩ : ∃ n q e, getAt bs p1 = (n, q, e) := ⟨_, _, _, rfl⟩
  have ip2 := getAt_in2 hlb h2
  obtain ⟨m3, p3, e3, h3⟩ : ∃ n q e, getAt bs p2 = (n, q, e) := ⟨_, _, _, rfl⟩
  have ip3 := getAt_in2 hlb h3
  have hdA : e1 ≠ 0 → decAt KD62 bs p = .error e1 := fun x => by unfold decAt; rw [h1]; simp only; rw [if_pos x]
  have hdB : e1 = 0 → e2 ≠ 0 → decAt KD62 bs p = .error e2 := fun x y => by unfold decAt; rw [h1]; simp only; rw [if_neg (by omega), h2]; simp only; rw [if_pos y]
  have hdC : e1 = 0 → e2 = 0 → e3 ≠ 0 → decAt KD62 bs p = .error e3 := fun x y z => by unfold decAt; rw [h1]; simp only; rw [if_neg (by omega), h2]; simp only; rw [if_neg (by omega), h3]; simp only; rw [if_pos z]
  have hdD : e1 = 0 → e2 = 0 → e3 = 0 → 8 < m3 → decAt KD62 bs p = .error 4 := fun x y z u => by unfold decAt; rw [h1]; simp only; rw [if_neg (by omega), h2]; simp only; rw [if_neg (by omega), h3]; simp only; rw [if_neg (by omega), if_pos u]
  have hdE : e1 = 0 → e2 = 0 → e3 = 0 → m3 ≤ 8 → decAt KD62 bs p = restAt KD62 bs m1 m2 m3 p3 := fun x y z u => by unfold decAt; rw [h1]; simp only; rw [if_neg (by omega), h2]; simp only; rw [if_neg (by omega), h3]; simp only; rw [if_neg (by omega), if_neg (by omega)]
  have HNU : Hid (∀ (p : Int) (n : Nat) (q : Int) (er : Nat) (W : World), getAt bs p = (n, q, er) → inP bs p → Calls Tryd.prog 20 #[.string s, .int .i64 p] W fun e w' => e = .returned (.tuple #[.int .i64 ((min n KD62 : Nat) : Int), .int .i64 q, .int .i64 (er : Int)]) ∧ w' = W) := fun p n q er W hg hi => rnum_any s p n q er (by rw [hs]; exact hg) W (by rw [hs]; exact hi)
  have HTX : Hid (∀ (p : Int) (t : List UInt8) (q : Int) (er : Nat) (W : World), textAt bs p 32 = (t, q, er) → inP bs p → Calls Tryd.prog 21 #[.string s, .int .i64 p, .int .i64 32] W fun e w' => e = .returned (.tuple #[.string (baOf t), .int .i64 q, .int .i64 (er : Int)]) ∧ w' = W) := fun p t q er W hg hi => by
    have h9 := rgtext_any bs p 32 t q er hg W hlb ⟨hi.1, hi.2.1⟩ (by omega)
    rw [show strOf bs = s by rw [← hs]; rfl] at h9
    exact h9
  obtain ⟨pb, hpb⟩ : ∃ pb, w.heap.size = pb := ⟨_, rfl⟩
  obtain ⟨V1, hV1, r1, hb1⟩ := box_tk (w := w) 0 0 none 0 0 ⟨#[]⟩
  obtain ⟨nb, hnb⟩ : ∃ nb, V1.heap.size = nb := ⟨_, rfl⟩
  have hq1 : pb + 1 = nb := by rw [← hnb, ← hV1, ← hpb]; simp
  obtain ⟨U2, hU2, u2, hc2⟩ := box_tk (w := V1) 0 0 none 0 0 ⟨#[]⟩
  rw [hpb] at r1
  rw [hnb] at u2
  obtain ⟨i0, i1, i2, i3, j0, j1, j2, j3⟩ := row4 u2
  obtain ⟨V2, hV2⟩ : ∃ V2, (((U2.setCell ⟨nb, 0, none⟩ (.int .i64 0)).setCell ⟨nb, 1, none⟩ (.int .i64 0)).setCell ⟨nb, 2, none⟩ (.slice none 0 0)).setCell ⟨nb, 3, none⟩ (.string ⟨#[]⟩) = V2 := ⟨_, rfl⟩
  have r2 : V2.heap[nb]? = some (.cells #[.int .i64 0, .int .i64 0, .slice none 0 0, .string ⟨#[]⟩] 24 (0, 0)) := by rw [← hV2]; exact set4 u2 _ _ _ _
  have hb2 : Below V1.heap.size V1 V2 := by rw [← hV2]; exact below4s hc2 (Nat.le_of_eq hnb) _ _ _ _
  have hB2 : Below w.heap.size w V2 := hb1.trans (hb2.mono hb1.size)
  have rp2 : V2.heap[pb]? = some (.cells #[.int .i64 0, .int .i64 0, .slice none 0 0, .string ⟨#[]⟩] 24 (0, 0)) := by rw [hb2.block pb (by omega)]; exact r1
  have hs2 : V2.heap.size = nb + 1 := by rw [← hV2, ← hU2, ← hnb]; simp [World.setCell]
  have HPB : Hid (w.heap.size = pb) := hpb
  have HO : Hid (pb + 1 = nb ∧ V2.heap.size = nb + 1 ∧ inP bs p1 ∧ inP bs p2 ∧ inP bs p3 ∧ bs.length ≤ 9223372036854775807) := ⟨hq1, hs2, ip1, ip2, ip3, hlb⟩
  have HN1 := HNU.out p m1 p1 e1 V2 h1 hp
  have HG : Hid (getAt bs p1 = (m2, p2, e2) ∧ getAt bs p2 = (m3, p3, e3)) := ⟨h2, h3⟩
  have HD : Hid ((e1 ≠ 0 → decAt KD62 bs p = .error e1) ∧ (e1 = 0 → e2 ≠ 0 → decAt KD62 bs p = .error e2) ∧ (e1 = 0 → e2 = 0 → e3 ≠ 0 → decAt KD62 bs p = .error e3) ∧ (e1 = 0 → e2 = 0 → e3 = 0 → 8 < m3 → decAt KD62 bs p = .error 4) ∧ (e1 = 0 → e2 = 0 → e3 = 0 → m3 ≤ 8 → decAt KD62 bs p = restAt KD62 bs m1 m2 m3 p3)) := ⟨hdA, hdB, hdC, hdD, hdE⟩
  have H2 : Hid (V2.heap[pb]? = some (.cells #[.int .i64 0, .int .i64 0, .slice none 0 0, .string ⟨#[]⟩] 24 (0, 0)) ∧ V2.heap[nb]? = some (.cells #[.int .i64 0, .int .i64 0, .slice none 0 0, .string ⟨#[]⟩] 24 (0, 0)) ∧ Below w.heap.size w V2) := ⟨rp2, r2, hB2⟩
  clear hp hlb h1 h2 h3 ip1 ip2 ip3 hdA hdB hdC hdD hdE r1 u2 hc2 r2 hb1 hb2 hB2 rp2 hs2 hs
  go_enter Tryd.func7, Tryd.ntmps7
  go_wp2_with fail
  refine HN1.mono ?_
  rintro e V9 ⟨rfl, hV9⟩
  subst V9
  clear HN1 i0 i1 i2 i3 j0 j1 j2 j3
  by_cases x1 : e1 = 0
  rotate_left
  · have hdec := HD.out.1 x1
    have hzp := H2.out.1
    have hzn := H2.out.2.1
    have hbe := H2.out.2.2
    have ke1 : ¬ (e1 : Int) = 0 := by omega
    have ke1b : ((e1 : Int) == 0) = false := by simpa using ke1
    have ke1m : ((e1 : Int) != 0) = true := by simpa using ke1
    obtain ⟨x0, x1, x2, x3, f0, f1, f2, f3⟩ := row4 hzp
    obtain ⟨v0, v1, v2, v3, _⟩ := row4 hzn
    obtain ⟨W5, hW5⟩ : ∃ W5, (((V2.setCell ⟨pb, 0, none⟩ (.int .i64 0)).setCell ⟨pb, 1, none⟩ (.int .i64 0)).setCell ⟨pb, 2, none⟩ (.slice none 0 0)).setCell ⟨pb, 3, none⟩ (.string ⟨#[]⟩) = W5 := ⟨_, rfl⟩
    have HE : Hid (DeTo w (decAt KD62 bs p) (.returned (.tuple #[.agg #[.int .i64 0, .int .i64 0, .slice none 0 0, .string ⟨#[]⟩], .int .i64 0, .int .i64 (e1 : Int)])) W5 ∧ W5.heap[pb]? = some (.cells #[.int .i64 0, .int .i64 0, .slice none 0 0, .string ⟨#[]⟩] 24 (0, 0))) := by
      refine ⟨?_, by rw [← hW5]; exact set4 hzp _ _ _ _⟩
      rw [hdec, ← hW5]
      exact ⟨rfl, below4s hbe (Nat.le_of_eq HPB.out) _ _ _ _⟩
    clear hzp hzn hbe hdec
    go_wp2
    refine bodyPost_ret (v := .tuple #[.agg #[.int .i64 0, .int .i64 0, .slice none 0 0, .string ⟨#[]⟩], .int .i64 0, .int .i64 (e1 : Int)]) ?_ rfl HE.out.1
    exact res_tk3 (fn := Tryd.f7) (p := 4) (q := 5) (r := 6) (by rfl) _ _ pb _ (by rfl) HE.out.2 infoT4
  subst x1
  have HN2 := HNU.out p1 m2 p2 e2 V2 HG.out.1 HO.out.2.2.1
  go_wp2_with fail
  refine HN2.mono ?_
  rintro e V9 ⟨rfl, hV9⟩
  subst V9
  clear HN2
  by_cases x2 : e2 = 0
  rotate_left
  · have hdec := HD.out.2.1 (by first | rfl | trivial) x2
    have hzp := H2.out.1
    have hzn := H2.out.2.1
    have hbe := H2.out.2.2
    have ke2 : ¬ (e2 : Int) = 0 := by omega
    have ke2b : ((e2 : Int) == 0) = false := by simpa using ke2
    have ke2m : ((e2 : Int) != 0) = true := by simpa using ke2
    obtain ⟨x0, x1, x2, x3, f0, f1, f2, f3⟩ := row4 hzp
    obtain ⟨v0, v1, v2, v3, _⟩ := row4 hzn
    obtain ⟨W5, hW5⟩ : ∃ W5, (((V2.setCell ⟨pb, 0, none⟩ (.int .i64 0)).setCell ⟨pb, 1, none⟩ (.int .i64 0)).setCell ⟨pb, 2, none⟩ (.slice none 0 0)).setCell ⟨pb, 3, none⟩ (.string ⟨#[]⟩) = W5 := ⟨_, rfl⟩
    have HE : Hid (DeTo w (decAt KD62 bs p) (.returned (.tuple #[.agg #[.int .i64 0, .int .i64 0, .slice none 0 0, .string ⟨#[]⟩], .int .i64 0, .int .i64 (e2 : Int)])) W5 ∧ W5.heap[pb]? = some (.cells #[.int .i64 0, .int .i64 0, .slice none 0 0, .string ⟨#[]⟩] 24 (0, 0))) := by
      refine ⟨?_, by rw [← hW5]; exact set4 hzp _ _ _ _⟩
      rw [hdec, ← hW5]
      exact ⟨rfl, below4s hbe (Nat.le_of_eq HPB.out) _ _ _ _⟩
    clear hzp hzn hbe hdec
    go_wp2
    refine bodyPost_ret (v := .tuple #[.agg #[.int .i64 0, .int .i64 0, .slice none 0 0, .string ⟨#[]⟩], .int .i64 0, .int .i64 (e2 : Int)]) ?_ rfl HE.out.1
    exact res_tk3 (fn := Tryd.f7) (p := 4) (q := 5) (r := 6) (by rfl) _ _ pb _ (by rfl) HE.out.2 infoT4
  subst x2
  have HN3 := HNU.out p2 m3 p3 e3 V2 HG.out.2 HO.out.2.2.2.1
  go_wp2_with fail
  refine HN3.mono ?_
  rintro e V9 ⟨rfl, hV9⟩
  subst V9
  clear HN3
  by_cases x3 : e3 = 0
  rotate_left
  · have hdec := HD.out.2.2.1 (by first | rfl | trivial) (by first | rfl | trivial) x3
    have hzp := H2.out.1
    have hzn := H2.out.2.1
    have hbe := H2.out.2.2
    have ke3 : ¬ (e3 : Int) = 0 := by omega
    have ke3b : ((e3 : Int) == 0) = false := by simpa using ke3
    have ke3m : ((e3 : Int) != 0) = true := by simpa using ke3
    obtain ⟨x0, x1, x2, x3, f0, f1, f2, f3⟩ := row4 hzp
    obtain ⟨v0, v1, v2, v3, _⟩ := row4 hzn
    obtain ⟨W5, hW5⟩ : ∃ W5, (((V2.setCell ⟨pb, 0, none⟩ (.int .i64 0)).setCell ⟨pb, 1, none⟩ (.int .i64 0)).setCell ⟨pb, 2, none⟩ (.slice none 0 0)).setCell ⟨pb, 3, none⟩ (.string ⟨#[]⟩) = W5 := ⟨_, rfl⟩
    have HE : Hid (DeTo w (decAt KD62 bs p) (.returned (.tuple #[.agg #[.int .i64 0, .int .i64 0, .slice none 0 0, .string ⟨#[]⟩], .int .i64 0, .int .i64 (e3 : Int)])) W5 ∧ W5.heap[pb]? = some (.cells #[.int .i64 0, .int .i64 0, .slice none 0 0, .string ⟨#[]⟩] 24 (0, 0))) := by
      refine ⟨?_, by rw [← hW5]; exact set4 hzp _ _ _ _⟩
      rw [hdec, ← hW5]
      exact ⟨rfl, below4s hbe (Nat.le_of_eq HPB.out) _ _ _ _⟩
    clear hzp hzn hbe hdec
    go_wp2
    refine bodyPost_ret (v := .tuple #[.agg #[.int .i64 0, .int .i64 0, .slice none 0 0, .string ⟨#[]⟩], .int .i64 0, .int .i64 (e3 : Int)]) ?_ rfl HE.out.1
    exact res_tk3 (fn := Tryd.f7) (p := 4) (q := 5) (r := 6) (by rfl) _ _ pb _ (by rfl) HE.out.2 infoT4
  subst x3
  have hkd : KD62 = 4611686018427387904 := rfl
  obtain ⟨n3, hn3⟩ : ∃ n3, min m3 KD62 = n3 := ⟨_, rfl⟩
  rw [hn3]
  by_cases x8 : 8 < m3
  · have hdec := HD.out.2.2.2.1 (by first | rfl | trivial) (by first | rfl | trivial) (by first | rfl | trivial) x8
    have hzp := H2.out.1
    have hzn := H2.out.2.1
    have hbe := H2.out.2.2
    have k8 : (8 : Int) < (n3 : Int) := by omega
    obtain ⟨x0, x1, x2, x3, f0, f1, f2, f3⟩ := row4 hzp
    obtain ⟨v0, v1, v2, v3, _⟩ := row4 hzn
    obtain ⟨W5, hW5⟩ : ∃ W5, (((V2.setCell ⟨pb, 0, none⟩ (.int .i64 0)).setCell ⟨pb, 1, none⟩ (.int .i64 0)).setCell ⟨pb, 2, none⟩ (.slice none 0 0)).setCell ⟨pb, 3, none⟩ (.string ⟨#[]⟩) = W5 := ⟨_, rfl⟩
    have HE : Hid (DeTo w (decAt KD62 bs p) (.returned (.tuple #[.agg #[.int .i64 0, .int .i64 0, .slice none 0 0, .string ⟨#[]⟩], .int .i64 0, .int .i64 ((4 : Nat) : Int)])) W5 ∧ W5.heap[pb]? = some (.cells #[.int .i64 0, .int .i64 0, .slice none 0 0, .string ⟨#[]⟩] 24 (0, 0))) := by
      refine ⟨?_, by rw [← hW5]; exact set4 hzp _ _ _ _⟩
      rw [hdec, ← hW5]
      exact ⟨rfl, below4s hbe (Nat.le_of_eq HPB.out) _ _ _ _⟩
    have e44 : ((4 : Nat) : Int) = 4 := rfl
    rw [e44] at HE
    clear hzp hzn hbe hdec e44 hn3 hkd
    go_wp2
    refine bodyPost_ret (v := .tuple #[.agg #[.int .i64 0, .int .i64 0, .slice none 0 0, .string ⟨#[]⟩], .int .i64 0, .int .i64 4]) ?_ rfl HE.out.1
    exact res_tk3 (fn := Tryd.f7) (p := 4) (q := 5) (r := 6) (by rfl) _ _ pb _ (by rfl) HE.out.2 infoT4
  obtain rfl : n3 = m3 := by omega
  have k8 : ¬ (8 : Int) < (n3 : Int) := by omega
  have hde := HD.out.2.2.2.2 (by first | rfl | trivial) (by first | rfl | trivial) (by first | rfl | trivial) (by omega)
  have HDE : Hid (decAt KD62 bs p = restAt KD62 bs m1 m2 n3 p3) := hde
  obtain ⟨n1, hn1⟩ : ∃ n1, min m1 KD62 = n1 := ⟨_, rfl⟩
  obtain ⟨n2, hn2⟩ : ∃ n2, min m2 KD62 = n2 := ⟨_, rfl⟩
  rw [hn1, hn2]
  have HNN : Hid (min m1 KD62 = n1 ∧ min m2 KD62 = n2) := ⟨hn1, hn2⟩
  obtain ⟨U3, hU3, u3, hc3⟩ := box_tk (w := V2) (n1 : Int) (n2 : Int) none 0 0 ⟨#[]⟩
  obtain ⟨tb, htb⟩ : ∃ tb, V2.heap.size = tb := ⟨_, rfl⟩
  rw [htb] at u3
  obtain ⟨_, _, i2, i3, _, _, j2, j3⟩ := row4 u3
  obtain ⟨V3, hV3⟩ : ∃ V3, (U3.setCell ⟨tb, 2, none⟩ (.slice none 0 0)).setCell ⟨tb, 3, none⟩ (.string ⟨#[]⟩) = V3 := ⟨_, rfl⟩
  have r3 : V3.heap[tb]? = some (.cells #[.int .i64 (n1 : Int), .int .i64 (n2 : Int), .slice none 0 0, .string ⟨#[]⟩] 24 (0, 0)) := by
    have h1 : (U3.setCell ⟨tb, 2, none⟩ (.slice none 0 0)).heap[tb]? = some (.cells #[.int .i64 (n1 : Int), .int .i64 (n2 : Int), .slice none 0 0, .string ⟨#[]⟩] 24 (0, 0)) := by rw [heap_setCell_same _ _ _ _ _ _ u3]; rfl
    rw [← hV3, heap_setCell_same _ _ _ _ _ _ h1]
    rfl
  have hb3 : Below V2.heap.size V2 V3 := by rw [← hV3]; exact (hc3.setCell (Nat.le_of_eq htb) _).setCell (Nat.le_of_eq htb) _
  have hnt : nb + 1 = tb := by have := HO.out; omega
  have H3 : Hid (V3.heap[tb]? = some (.cells #[.int .i64 (n1 : Int), .int .i64 (n2 : Int), .slice none 0 0, .string ⟨#[]⟩] 24 (0, 0)) ∧ V3.heap[pb]? = some (.cells #[.int .i64 0, .int .i64 0, .slice none 0 0, .string ⟨#[]⟩] 24 (0, 0)) ∧ V3.heap[nb]? = some (.cells #[.int .i64 0, .int .i64 0, .slice none 0 0, .string ⟨#[]⟩] 24 (0, 0)) ∧ Below w.heap.size w V3 ∧ nb + 1 = tb) := ⟨r3, (hb3.block pb (lt_of_some H2.out.1)).trans H2.out.1, (hb3.block nb (lt_of_some H2.out.2.1)).trans H2.out.2.1, H2.out.2.2.trans (hb3.mono H2.out.2.2.size), hnt⟩
  clear hn1 hn2 hn3 hkd hde u3 hc3 r3 hb3 hnt
  go_wp2
  clear i2 i3 j2 j3
  go_loopw [1, 13] (fun vp vi wr => ∃ (i : Nat) (l : List Cv) (q : Int) (a' : Option Addr) (c' : Nat), i ≤ n3 ∧ vi = .int .i64 i ∧ vp = .int .i64 q ∧ inP bs q ∧ cavsAt KD62 bs p3 i = .ok (l, q) ∧ wr.heap[tb]? = some (.cells #[.int .i64 (n1 : Int), .int .i64 (n2 : Int), .slice a' i c', .string ⟨#[]⟩] 24 (0, 0)) ∧ wr.heap[pb]? = some (.cells #[.int .i64 0, .int .i64 0, .slice none 0 0, .string ⟨#[]⟩] 24 (0, 0)) ∧ wr.heap[nb]? = some (.cells #[.int .i64 0, .int .i64 0, .slice none 0 0, .string ⟨#[]⟩] 24 (0, 0)) ∧ wr.ownsRow (tb + 1) 39 3 (.slice a' i c') i (cvR l) ∧ Below w.heap.size w wr) (fun _ vi _ => n3 - (intOf vi).toNat)
  case atStart => exact ⟨0, [], p3, none, 0, by omega, rfl, rfl, HO.out.2.2.2.2.1, rfl, H3.out.1, H3.out.2.1, H3.out.2.2.1, World.ownsRow_nil _ _ _ _, H3.out.2.2.2.1⟩
  case round =>
  obtain ⟨i, l, q, a', c', hi, rfl, rfl, ipq, hcv, ht, hzp, hzn, ho, hbe⟩ := hrel
  by_cases hlt : i < n3
  · have kk : (i : Int) < (n3 : Int) := by omega
    obtain ⟨t, q1, f1, g1⟩ : ∃ t r e, textAt bs q 32 = (t, r, e) := ⟨_, _, _, rfl⟩
    obtain ⟨N1, N2⟩ := cavs_next hcv g1
    have HT1 := HTX.out q t q1 f1 wr g1 ipq
    have iq1 := textAt_in2 HO.out.2.2.2.2.2 g1
    obtain ⟨m4, q2, f2, g2⟩ : ∃ n r e, getAt bs q1 = (n, r, e) := ⟨_, _, _, rfl⟩
    have iq2 := getAt_in2 HO.out.2.2.2.2.2 g2
    obtain ⟨m5, q3, f3', g3⟩ : ∃ n r e, getAt bs q2 = (n, r, e) := ⟨_, _, _, rfl⟩
    have iq3 := getAt_in2 HO.out.2.2.2.2.2 g3
    have HT2 := HNU.out q1 m4 q2 f2 wr g2 iq1
    have HT3 := HNU.out q2 m5 q3 f3' wr g3 iq2
    have HNX : Hid ((f1 ≠ 0 → cavsAt KD62 bs p3 (i + 1) = .error f1) ∧ (f1 = 0 → (f2 ≠ 0 → cavsAt KD62 bs p3 (i + 1) = .error f2) ∧ (f2 = 0 → (f3' ≠ 0 → cavsAt KD62 bs p3 (i + 1) = .error f3') ∧ (f3' = 0 → cavsAt KD62 bs p3 (i + 1) = .ok (l ++ [⟨baOf t, ((min m4 KD62 : Nat) : Int), ((min m5 KD62 : Nat) : Int)⟩], q3))))) := ⟨N1, fun x => ⟨(N2 x m4 q2 f2 g2).1, fun y => ⟨((N2 x m4 q2 f2 g2).2 y m5 q3 f3' g3).1, ((N2 x m4 q2 f2 g2).2 y m5 q3 f3' g3).2⟩⟩⟩
    have HRS : Hid (∀ e, cavsAt KD62 bs p3 (i + 1) = .error e → decAt KD62 bs p = .error e) := fun e h9 => by rw [HDE.out]; exact rest_stop h9 (by omega)
    obtain ⟨X, hX⟩ : ∃ X, baOf t = X := ⟨_, rfl⟩
    obtain ⟨v4, hv4⟩ : ∃ v, min m4 KD62 = v := ⟨_, rfl⟩
    obtain ⟨v5, hv5⟩ : ∃ v, min m5 KD62 = v := ⟨_, rfl⟩
    rw [hX] at HT1
    rw [hv4] at HT2
    rw [hv5] at HT3
    rw [hX, hv4, hv5] at HNX
    have HIQ : Hid (inP bs q3) := iq3
    clear hcv g1 N1 N2 iq1 g2 iq2 g3 iq3 hX hv4 hv5 ipq
    go_wp2_with fail
    refine HT1.mono ?_
    rintro e V9 ⟨rfl, hV9⟩
    subst V9
    clear HT1
    by_cases y1 : f1 = 0
    rotate_left
    · have hdec := HRS.out f1 (HNX.out.1 y1)
      clear ht ho HT2 HT3
      have kf1 : ¬ (f1 : Int) = 0 := by omega
      have kf1b : ((f1 : Int) == 0) = false := by simpa using kf1
      have kf1m : ((f1 : Int) != 0) = true := by simpa using kf1
      obtain ⟨x0, x1, x2, x3, fr0, fr1, fr2, fr3⟩ := row4 hzp
      obtain ⟨v0, v1, v2, v3, _⟩ := row4 hzn
      obtain ⟨W5, hW5⟩ : ∃ W5, (((wr.setCell ⟨pb, 0, none⟩ (.int .i64 0)).setCell ⟨pb, 1, none⟩ (.int .i64 0)).setCell ⟨pb, 2, none⟩ (.slice none 0 0)).setCell ⟨pb, 3, none⟩ (.string ⟨#[]⟩) = W5 := ⟨_, rfl⟩
      have HE : Hid (DeTo w (decAt KD62 bs p) (.returned (.tuple #[.agg #[.int .i64 0, .int .i64 0, .slice none 0 0, .string ⟨#[]⟩], .int .i64 0, .int .i64 (f1 : Int)])) W5 ∧ W5.heap[pb]? = some (.cells #[.int .i64 0, .int .i64 0, .slice none 0 0, .string ⟨#[]⟩] 24 (0, 0))) := by
        refine ⟨?_, by rw [← hW5]; exact set4 hzp _ _ _ _⟩
        rw [hdec, ← hW5]
        exact ⟨rfl, below4s hbe (Nat.le_of_eq HPB.out) _ _ _ _⟩
      clear hzp hzn hbe hdec
      go_wp2
      refine bodyPost_ret (v := .tuple #[.agg #[.int .i64 0, .int .i64 0, .slice none 0 0, .string ⟨#[]⟩], .int .i64 0, .int .i64 (f1 : Int)]) ?_ rfl HE.out.1
      exact res_tk3 (fn := Tryd.f7) (p := 4) (q := 5) (r := 6) (by rfl) _ _ pb _ (by rfl) HE.out.2 infoT4
    subst y1
    go_wp2_with fail
    refine HT2.mono ?_
    rintro e V9 ⟨rfl, hV9⟩
    subst V9
    clear HT2
    by_cases y2 : f2 = 0
    rotate_left
    · have hdec := HRS.out f2 ((HNX.out.2 (by first | rfl | trivial)).1 y2)
      clear ht ho HT3
      have kf2 : ¬ (f2 : Int) = 0 := by omega
      have kf2b : ((f2 : Int) == 0) = false := by simpa using kf2
      have kf2m : ((f2 : Int) != 0) = true := by simpa using kf2
      obtain ⟨x0, x1, x2, x3, fr0, fr1, fr2, fr3⟩ := row4 hzp
      obtain ⟨v0, v1, v2, v3, _⟩ := row4 hzn
      obtain ⟨W5, hW5⟩ : ∃ W5, (((wr.setCell ⟨pb, 0, none⟩ (.int .i64 0)).setCell ⟨pb, 1, none⟩ (.int .i64 0)).setCell ⟨pb, 2, none⟩ (.slice none 0 0)).setCell ⟨pb, 3, none⟩ (.string ⟨#[]⟩) = W5 := ⟨_, rfl⟩
      have HE : Hid (DeTo w (decAt KD62 bs p) (.returned (.tuple #[.agg #[.int .i64 0, .int .i64 0, .slice none 0 0, .string ⟨#[]⟩], .int .i64 0, .int .i64 (f2 : Int)])) W5 ∧ W5.heap[pb]? = some (.cells #[.int .i64 0, .int .i64 0, .slice none 0 0, .string ⟨#[]⟩] 24 (0, 0))) := by
        refine ⟨?_, by rw [← hW5]; exact set4 hzp _ _ _ _⟩
        rw [hdec, ← hW5]
        exact ⟨rfl, below4s hbe (Nat.le_of_eq HPB.out) _ _ _ _⟩
      clear hzp hzn hbe hdec
      go_wp2
      refine bodyPost_ret (v := .tuple #[.agg #[.int .i64 0, .int .i64 0, .slice none 0 0, .string ⟨#[]⟩], .int .i64 0, .int .i64 (f2 : Int)]) ?_ rfl HE.out.1
      exact res_tk3 (fn := Tryd.f7) (p := 4) (q := 5) (r := 6) (by rfl) _ _ pb _ (by rfl) HE.out.2 infoT4
    subst y2
    go_wp2_with fail
    refine HT3.mono ?_
    rintro e V9 ⟨rfl, hV9⟩
    subst V9
    clear HT3
    by_cases y3 : f3' = 0
    rotate_left
    · have hdec := HRS.out f3' (((HNX.out.2 (by first | rfl | trivial)).2 (by first | rfl | trivial)).1 y3)
      clear ht ho
      have kf3 : ¬ (f3' : Int) = 0 := by omega
      have kf3b : ((f3' : Int) == 0) = false := by simpa using kf3
      have kf3m : ((f3' : Int) != 0) = true := by simpa using kf3
      obtain ⟨x0, x1, x2, x3, fr0, fr1, fr2, fr3⟩ := row4 hzp
      obtain ⟨v0, v1, v2, v3, _⟩ := row4 hzn
      obtain ⟨W5, hW5⟩ : ∃ W5, (((wr.setCell ⟨pb, 0, none⟩ (.int .i64 0)).setCell ⟨pb, 1, none⟩ (.int .i64 0)).setCell ⟨pb, 2, none⟩ (.slice none 0 0)).setCell ⟨pb, 3, none⟩ (.string ⟨#[]⟩) = W5 := ⟨_, rfl⟩
      have HE : Hid (DeTo w (decAt KD62 bs p) (.returned (.tuple #[.agg #[.int .i64 0, .int .i64 0, .slice none 0 0, .string ⟨#[]⟩], .int .i64 0, .int .i64 (f3' : Int)])) W5 ∧ W5.heap[pb]? = some (.cells #[.int .i64 0, .int .i64 0, .slice none 0 0, .string ⟨#[]⟩] 24 (0, 0))) := by
        refine ⟨?_, by rw [← hW5]; exact set4 hzp _ _ _ _⟩
        rw [hdec, ← hW5]
        exact ⟨rfl, below4s hbe (Nat.le_of_eq HPB.out) _ _ _ _⟩
      clear hzp hzn hbe hdec
      go_wp2
      refine bodyPost_ret (v := .tuple #[.agg #[.int .i64 0, .int .i64 0, .slice none 0 0, .string ⟨#[]⟩], .int .i64 0, .int .i64 (f3' : Int)]) ?_ rfl HE.out.1
      exact res_tk3 (fn := Tryd.f7) (p := 4) (q := 5) (r := 6) (by rfl) _ _ pb _ (by rfl) HE.out.2 infoT4
    subst y3
    have hnx := ((HNX.out.2 (by first | rfl | trivial)).2 (by first | rfl | trivial)).2 (by first | rfl | trivial)
    obtain ⟨V6, hV6, r6, hb6⟩ := box_cv (w := wr) X (v4 : Int) (v5 : Int)
    obtain ⟨g6, hg6⟩ : ∃ g6, wr.heap.size = g6 := ⟨_, rfl⟩
    rw [hg6] at r6
    have t6 := (hb6.block tb (lt_of_some ht)).trans ht
    have z6 := (hb6.block pb (lt_of_some hzp)).trans hzp
    have n6 := (hb6.block nb (lt_of_some hzn)).trans hzn
    have o6 : V6.ownsRow (tb + 1) 39 3 (.slice a' i c') i (cvR l) := own_keep ho (fun j hj => hb6.block j (ho.lt j hj).2)
    have b6 : Below w.heap.size w V6 := hbe.trans (hb6.mono hbe.size)
    obtain ⟨a7, c7, V7, hr7, o7, hg7, _⟩ := addK_own V6 o6 (cvRow (p := ⟨X, (v4 : Int), (v5 : Int)⟩) r6) (by omega) (by have := lt_of_some t6; omega)
    have ngr : ∀ k, k < V6.heap.size → k ≤ tb → V7.heap[k]? = V6.heap[k]? := fun k hk hkt => hg7.block k hk (fun h9 => by have := (o6.lt k (by rw [ob_slice]; exact h9.symm)).1; omega)
    have t7 := (ngr tb (lt_of_some t6) (by omega)).trans t6
    have z7 := (ngr pb (lt_of_some z6) (by have := HO.out; have := H3.out.2.2.2.2; omega)).trans z6
    have n7 := (ngr nb (lt_of_some n6) (by have := H3.out.2.2.2.2; omega)).trans n6
    have b7 : Below w.heap.size w V7 := b6.grown hg7 b6.size (fun j hj => by have := (o6.lt j (by rw [ob_slice]; exact hj)).1; have := HO.out; have := HPB.out; have := H3.out.2.2.2.2; omega)
    obtain ⟨_, _, y2, _⟩ := row4 ht
    obtain ⟨_, _, y2', _⟩ := row4 t6
    obtain ⟨_, _, k7, _, _, _, f7, _⟩ := row4 t7
    obtain ⟨V8, hV8⟩ : ∃ V8, V7.setCell ⟨tb, 2, none⟩ (.slice a7 (i + 1) c7) = V8 := ⟨_, rfl⟩
    have HE : Hid (inP bs q3 ∧ cavsAt KD62 bs p3 (i + 1) = .ok (l ++ [⟨X, (v4 : Int), (v5 : Int)⟩], q3) ∧ V8.heap[tb]? = some (.cells #[.int .i64 (n1 : Int), .int .i64 (n2 : Int), .slice a7 (i + 1) c7, .string ⟨#[]⟩] 24 (0, 0)) ∧ V8.heap[pb]? = some (.cells #[.int .i64 0, .int .i64 0, .slice none 0 0, .string ⟨#[]⟩] 24 (0, 0)) ∧ V8.heap[nb]? = some (.cells #[.int .i64 0, .int .i64 0, .slice none 0 0, .string ⟨#[]⟩] 24 (0, 0)) ∧ V8.ownsRow (tb + 1) 39 3 (.slice a7 (i + 1) c7) (i + 1) (cvR (l ++ [⟨X, (v4 : Int), (v5 : Int)⟩])) ∧ Below w.heap.size w V8) := by
      have o8 : ∀ k, k ≠ tb → V8.heap[k]? = V7.heap[k]? := fun k hk => by rw [← hV8, heap_setCell_other _ _ _ _ hk]
      refine ⟨HIQ.out, hnx, by rw [← hV8, heap_setCell_same _ _ _ _ _ _ t7]; rfl, (o8 pb (by have := HO.out; have := H3.out.2.2.2.2; omega)).trans z7, (o8 nb (by have := H3.out.2.2.2.2; omega)).trans n7, own_keep o7 (fun j hj => by have h9 := (o7.lt j hj).1; exact o8 j (by omega)), ?_⟩
      rw [← hV8]
      exact b7.setCell (show w.heap.size ≤ tb by have := HO.out; have := HPB.out; have := H3.out.2.2.2.2; omega) _
    clear hnx r6 hb6 t6 z6 n6 o6 b6 o7 hg7 ngr t7 z7 n7 b7 ht hzp hzn ho hbe
    go_wp2_with (at_builtin; refine wpList_app V6 rfl _ _ _ _ rfl rfl rfl (hr7 _) ?_)
    exact ⟨⟨i + 1, _, q3, a7, c7, by omega, by go_num, rfl, HE.out⟩, by simp [intOf]; omega⟩
  · obtain rfl : i = n3 := by omega
    have kk : ¬ (i : Int) < (i : Int) := by omega
    obtain ⟨tx, q2, e5, g1⟩ : ∃ t r e, textAt bs q 32 = (t, r, e) := ⟨_, _, _, rfl⟩
    have HT1 := HTX.out q tx q2 e5 wr g1 ipq
    have hpl := cavsAt_paths HO.out.2.2.2.2.2 i l q hcv
    have hr1 : e5 ≠ 0 → decAt KD62 bs p = .error e5 := fun x => by rw [HDE.out]; unfold restAt; rw [hcv]; simp only; rw [g1]; simp only; rw [if_pos x]
    obtain ⟨X, hX⟩ : ∃ X, baOf tx = X := ⟨_, rfl⟩
    have hr2 : e5 = 0 → decAt KD62 bs p = (if mayT ⟨(n1 : Int), (n2 : Int), l, X⟩ = true then .ok (⟨(n1 : Int), (n2 : Int), l, X⟩, q2) else .error 4) := fun x => by rw [HDE.out]; unfold restAt; rw [hcv]; simp only; rw [g1]; simp only; rw [if_neg (by omega), hX, HNN.out.1, HNN.out.2]
    rw [hX] at HT1
    have HRR : Hid ((e5 ≠ 0 → decAt KD62 bs p = .error e5) ∧ (e5 = 0 → decAt KD62 bs p = (if mayT ⟨(n1 : Int), (n2 : Int), l, X⟩ = true then .ok (⟨(n1 : Int), (n2 : Int), l, X⟩, q2) else .error 4))) := ⟨hr1, hr2⟩
    have HPL : Hid (∀ c ∈ l, c.path.size ≤ 9223372036854775807) := hpl
    clear hcv g1 hr1 hr2 hX ipq hpl
    go_wp2_with fail
    refine HT1.mono ?_
    rintro e V9 ⟨rfl, hV9⟩
    subst V9
    clear HT1
    by_cases y1 : e5 = 0
    rotate_left
    · have hdec := HRR.out.1 y1
      clear ht ho
      have ke5 : ¬ (e5 : Int) = 0 := by omega
      have ke5b : ((e5 : Int) == 0) = false := by simpa using ke5
      have ke5m : ((e5 : Int) != 0) = true := by simpa using ke5
      obtain ⟨x0, x1, x2, x3, f0, f1, f2, f3⟩ := row4 hzp
      obtain ⟨v0, v1, v2, v3, _⟩ := row4 hzn
      obtain ⟨W5, hW5⟩ : ∃ W5, (((wr.setCell ⟨pb, 0, none⟩ (.int .i64 0)).setCell ⟨pb, 1, none⟩ (.int .i64 0)).setCell ⟨pb, 2, none⟩ (.slice none 0 0)).setCell ⟨pb, 3, none⟩ (.string ⟨#[]⟩) = W5 := ⟨_, rfl⟩
      have HE : Hid (DeTo w (decAt KD62 bs p) (.returned (.tuple #[.agg #[.int .i64 0, .int .i64 0, .slice none 0 0, .string ⟨#[]⟩], .int .i64 0, .int .i64 (e5 : Int)])) W5 ∧ W5.heap[pb]? = some (.cells #[.int .i64 0, .int .i64 0, .slice none 0 0, .string ⟨#[]⟩] 24 (0, 0))) := by
        refine ⟨?_, by rw [← hW5]; exact set4 hzp _ _ _ _⟩
        rw [hdec, ← hW5]
        exact ⟨rfl, below4s hbe (Nat.le_of_eq HPB.out) _ _ _ _⟩
      clear hzp hzn hbe hdec
      go_wp2
      refine bodyPost_ret (v := .tuple #[.agg #[.int .i64 0, .int .i64 0, .slice none 0 0, .string ⟨#[]⟩], .int .i64 0, .int .i64 (e5 : Int)]) ?_ rfl HE.out.1
      exact res_tk3 (fn := Tryd.f7) (p := 4) (q := 5) (r := 6) (by rfl) _ _ pb _ (by rfl) HE.out.2 infoT4
    subst y1
    have hdd := HRR.out.2 (by first | rfl | trivial)
    obtain ⟨_, _, _, k3, _, _, _, f3'⟩ := row4 ht
    obtain ⟨VB, hVB⟩ : ∃ VB, wr.setCell ⟨tb, 3, none⟩ (.string X) = VB := ⟨_, rfl⟩
    have tB : VB.heap[tb]? = some (.cells #[.int .i64 (n1 : Int), .int .i64 (n2 : Int), .slice a' i c', .string X] 24 (0, 0)) := by rw [← hVB, heap_setCell_same _ _ _ _ _ _ ht]; rfl
    have oB' : ∀ k, k ≠ tb → VB.heap[k]? = wr.heap[k]? := fun k hk => by rw [← hVB, heap_setCell_other _ _ _ _ hk]
    have bB : Below w.heap.size w VB := by rw [← hVB]; exact hbe.setCell (show w.heap.size ≤ tb by have := HO.out; have := HPB.out; have := H3.out.2.2.2.2; omega) _
    have zB := (oB' pb (by have := HO.out; have := H3.out.2.2.2.2; omega)).trans hzp
    have nB := (oB' nb (by have := H3.out.2.2.2.2; omega)).trans hzn
    have oB : VB.ownsRow (tb + 1) 39 3 (.slice a' i c') i (cvR l) := own_keep ho (fun j hj => by have h9 := (ho.lt j hj).1; exact oB' j (by omega))
    obtain ⟨s0, s1, s2, s3, _⟩ := row4 tB
    have HMY := rmay_any (n1 : Int) (n2 : Int) X (Kw.own oB) HPL.out
    unfold YeTo at HMY
    have HBB : Hid (VB.heap[tb]? = some (.cells #[.int .i64 (n1 : Int), .int .i64 (n2 : Int), .slice a' i c', .string X] 24 (0, 0)) ∧ VB.heap[pb]? = some (.cells #[.int .i64 0, .int .i64 0, .slice none 0 0, .string ⟨#[]⟩] 24 (0, 0)) ∧ VB.heap[nb]? = some (.cells #[.int .i64 0, .int .i64 0, .slice none 0 0, .string ⟨#[]⟩] 24 (0, 0)) ∧ Rw (fun x => pb < x) VB 39 3 a' i c' (cvR l) ∧ Below w.heap.size w VB) := ⟨tB, zB, nB, Rw.own oB (fun x hx => by have := HO.out; have := H3.out.2.2.2.2; omega), bB⟩
    clear ht hzp hzn ho hbe tB oB' bB zB nB oB
    cases hm : mayT ⟨(n1 : Int), (n2 : Int), l, X⟩ with
    | false =>
      rw [hm] at HMY hdd
      rw [if_neg (by decide)] at hdd
      have HDX : Hid (decAt KD62 bs p = .error 4) := hdd
      clear hm hdd
      go_wp2_with fail
      refine HMY.mono ?_
      rintro e VC ⟨rfl, hbC⟩
      have hzp := (hbC.block pb (lt_of_some HBB.out.2.1)).trans HBB.out.2.1
      have hzn := (hbC.block nb (lt_of_some HBB.out.2.2.1)).trans HBB.out.2.2.1
      have hbe : Below w.heap.size w VC := HBB.out.2.2.2.2.trans (hbC.mono HBB.out.2.2.2.2.size)
      have hdec := HDX.out
      obtain ⟨x0, x1, x2, x3, f0, f1, f2, f3⟩ := row4 hzp
      obtain ⟨v0, v1, v2, v3, _⟩ := row4 hzn
      obtain ⟨W5, hW5⟩ : ∃ W5, (((VC.setCell ⟨pb, 0, none⟩ (.int .i64 0)).setCell ⟨pb, 1, none⟩ (.int .i64 0)).setCell ⟨pb, 2, none⟩ (.slice none 0 0)).setCell ⟨pb, 3, none⟩ (.string ⟨#[]⟩) = W5 := ⟨_, rfl⟩
      have HE : Hid (DeTo w (decAt KD62 bs p) (.returned (.tuple #[.agg #[.int .i64 0, .int .i64 0, .slice none 0 0, .string ⟨#[]⟩], .int .i64 0, .int .i64 ((4 : Nat) : Int)])) W5 ∧ W5.heap[pb]? = some (.cells #[.int .i64 0, .int .i64 0, .slice none 0 0, .string ⟨#[]⟩] 24 (0, 0))) := by
        refine ⟨?_, by rw [← hW5]; exact set4 hzp _ _ _ _⟩
        rw [hdec, ← hW5]
        exact ⟨rfl, below4s hbe (Nat.le_of_eq HPB.out) _ _ _ _⟩
      have e44 : ((4 : Nat) : Int) = 4 := rfl
      rw [e44] at HE
      clear HMY hbC hzp hzn hbe hdec e44 k3 f3' s0 s1 s2 s3
      go_wp2
      refine bodyPost_ret (v := .tuple #[.agg #[.int .i64 0, .int .i64 0, .slice none 0 0, .string ⟨#[]⟩], .int .i64 0, .int .i64 4]) ?_ rfl HE.out.1
      exact res_tk3 (fn := Tryd.f7) (p := 4) (q := 5) (r := 6) (by rfl) _ _ pb _ (by rfl) HE.out.2 infoT4
    | true =>
      rw [hm] at HMY hdd
      rw [if_pos rfl] at hdd
      have HDX : Hid (decAt KD62 bs p = .ok (⟨(n1 : Int), (n2 : Int), l, X⟩, q2)) := hdd
      clear hm hdd
      go_wp2_with fail
      refine HMY.mono ?_
      rintro e VC ⟨rfl, hbC⟩
      clear s0 s1 s2 s3 k3 f3'
      have hzp := (hbC.block pb (lt_of_some HBB.out.2.1)).trans HBB.out.2.1
      have htp := (hbC.block tb (lt_of_some HBB.out.1)).trans HBB.out.1
      have hbe : Below w.heap.size w VC := HBB.out.2.2.2.2.trans (hbC.mono HBB.out.2.2.2.2.size)
      obtain ⟨s0, s1, s2, s3, _⟩ := row4 htp
      obtain ⟨x0, x1, x2, x3, f0, f1, f2, f3⟩ := row4 hzp
      obtain ⟨W5, hW5⟩ : ∃ W5, (((VC.setCell ⟨pb, 0, none⟩ (.int .i64 (n1 : Int))).setCell ⟨pb, 1, none⟩ (.int .i64 (n2 : Int))).setCell ⟨pb, 2, none⟩ (.slice a' i c')).setCell ⟨pb, 3, none⟩ (.string X) = W5 := ⟨_, rfl⟩
      have HE : Hid (DeTo w (decAt KD62 bs p) (.returned (.tuple #[.agg #[.int .i64 (n1 : Int), .int .i64 (n2 : Int), .slice a' i c', .string X], .int .i64 q2, .int .i64 0])) W5 ∧ W5.heap[pb]? = some (.cells #[.int .i64 (n1 : Int), .int .i64 (n2 : Int), .slice a' i c', .string X] 24 (0, 0))) := by
        refine ⟨?_, by rw [← hW5]; exact set4 (U := VC) hzp _ _ _ _⟩
        rw [HDX.out]
        refine ⟨a', i, c', rfl, ?_, ?_⟩
        · have hk9 : Rw (fun x => pb < x) VC 39 3 a' i c' (cvR l) := HBB.out.2.2.2.1.below hbC
          rw [← hW5]
          exact Rw.mono (Rw.keep (w := VC) hk9 (below4s (Below.refl 0 _) (Nat.zero_le pb) _ _ _ _).size (fun b hb _ => other4s (by omega) _ _ _ _)) (fun _ _ _ => trivial)
        · rw [← hW5]
          exact below4s hbe (Nat.le_of_eq HPB.out) _ _ _ _
      clear HMY hbC hzp hbe htp
      go_wp2
      refine bodyPost_ret (v := .tuple #[.agg #[.int .i64 (n1 : Int), .int .i64 (n2 : Int), .slice a' i c', .string X], .int .i64 q2, .int .i64 0]) ?_ rfl HE.out.1
      exact res_tk3 (fn := Tryd.f7) (p := 4) (q := 5) (r := 6) (by rfl) _ _ pb _ (by rfl) HE.out.2 infoT4
end Go.Proofs.YtcmdcmbiilfngabDoor
