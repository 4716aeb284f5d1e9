/- What is decoded is encoded as it was. -/
import Derived.Test.YtgihdfmeokbplaaEF
namespace Go.Proofs.Ytgihdfmeokbplaa
open Ex
theorem rdN_back {bs : List UInt8} {p : Nat} {e : Nat} {n c : Nat} {q : Int} (hp : p ≤ bs.length) (h : rdN bs (p : Int) e = (n, q, c)) (hc : c = 0) : e = 0 ∧ ∃ m, n = min m 1048577 ∧ q = ((p + (putN m).length : Nat) : Int) ∧ p + (putN m).length ≤ bs.length ∧ bs.take (p + (putN m).length) = bs.take p ++ putN m := by
  subst hc
  by_cases he : e = 0
  · subst he
    refine ⟨rfl, ?_⟩
    unfold rdN at h
    rw [if_neg (by simp), getAt_in hp] at h
    obtain ⟨m, k, c, hg⟩ : ∃ m k c, getL (bs.drop p) 0 0 = (m, k, c) := ⟨_, _, _, rfl⟩
    rw [hg] at h
    simp only [Prod.mk.injEq] at h
    obtain ⟨h1, h2, rfl⟩ := h
    obtain ⟨x, h3, h4, h5, h6, _, h7⟩ := getL_least _ _ _ _ _ hg (by omega)
    rw [Nat.pow_zero, Nat.mul_one, Nat.zero_add] at h3
    rw [Nat.zero_add] at h4
    subst h3 h4
    rw [Nat.sub_zero] at h5 h6
    rw [List.length_drop] at h6
    rw [if_pos rfl] at h2
    exact ⟨m, h1.symm, by rw [← h2]; omega, by omega, by rw [List.take_add, ← h5]⟩
  · rw [rdN_err bs p he] at h
    simp only [Prod.mk.injEq] at h
    exact absurd h.2.2 he
theorem rdL_back {bs : List UInt8} {z : Nat} (hz : z ≤ 1048576) : ∀ (k i : Nat) (bh : Int) (p e : Nat) (acc hs : List Sp) (q : Int), p ≤ bs.length → RdOk z i bh acc → bh = endOf 0 acc → rdL bs z k i bh (p : Int) e acc = (some hs, q, 0) →
    e = 0 ∧ hs.length = acc.length + k ∧ ∃ (Q : Nat) (X : List UInt8), q = (Q : Int) ∧ Q ≤ bs.length ∧ bs.take Q = bs.take p ++ X ∧ encT 0 hs = encT 0 acc ++ X ∧ ∃ b, RdOk z (i + k) b hs
  | 0, i, bh, p, e, acc, hs, q, hp, hok, hbh, h => by
    rw [rdL] at h
    simp only [Prod.mk.injEq, Option.some.injEq] at h
    obtain ⟨rfl, rfl, rfl⟩ := h
    exact ⟨rfl, rfl, p, [], rfl, hp, by simp, by simp, bh, hok⟩
  | k + 1, i, bh, p, e, acc, hs, q, hp, hok, hbh, h => by
    obtain ⟨d, p1, e1, h1⟩ : ∃ d p1 e1, rdN bs (p : Int) e = (d, p1, e1) := ⟨_, _, _, rfl⟩
    obtain ⟨s, p2, e2, h2⟩ : ∃ d p2 e2, rdN bs p1 e1 = (d, p2, e2) := ⟨_, _, _, rfl⟩
    rw [rdL_step h1 h2] at h
    split at h
    · simp at h
    · next hn =>
      have hna : ¬ (0 < i ∧ d = 0) := fun h9 => hn (.inl h9)
      have hnb : Ar.has ⟨z, [], 0⟩ (bh + (d : Int), (s : Int)) = true := by
        cases hh : Ar.has ⟨z, [], 0⟩ (bh + (d : Int), (s : Int)) with
        | true => rfl
        | false => exact absurd (.inr hh) hn
      have hst := hok.step hna hnb
      rw [Ar.has_iff] at hnb
      simp only at hnb
      have hb0 := hok.b0
      have herr : e1 ≠ 0 → e2 ≠ 0 := fun h9 h10 => by
        rw [rdN_err bs p1 h9] at h2
        simp only [Prod.mk.injEq] at h2
        omega
      have hp2 : ∃ P2 : Nat, p2 = (P2 : Int) ∧ P2 ≤ bs.length := by
        have := getAt_pl bs p1
        by_cases h9 : e1 = 0
        · subst h9
          unfold rdN at h2
          rw [if_neg (by simp)] at h2
          simp only [Prod.mk.injEq] at h2
          exact ⟨p2.toNat, by omega, by omega⟩
        · rw [rdN_err bs p1 h9] at h2
          simp only [Prod.mk.injEq] at h2
          by_cases h10 : e = 0
          · subst h10
            unfold rdN at h1
            rw [if_neg (by simp)] at h1
            simp only [Prod.mk.injEq] at h1
            have := getAt_pl bs p
            exact ⟨p2.toNat, by omega, by omega⟩
          · rw [rdN_err bs p h10] at h1
            simp only [Prod.mk.injEq] at h1
            exact ⟨p, by omega, hp⟩
      obtain ⟨P2, rfl, hP2⟩ := hp2
      obtain ⟨g1, g2, Q, X, g3, g4, g5, g6, g7⟩ := rdL_back hz k (i + 1) _ P2 e2 _ hs q hP2 hst (by rw [endOf_snoc]; rfl) h
      subst g1
      have he1 : e1 = 0 := Classical.byContradiction fun h9 => herr h9 rfl
      subst he1
      obtain ⟨rfl, m, m1, m2, m3, m4⟩ := rdN_back hp h1 rfl
      subst m2
      obtain ⟨_, n, n1, n2, n3, n4⟩ := rdN_back m3 h2 rfl
      have hmd : m = d := by omega
      have hns : n = s := by omega
      subst hmd hns
      have hP : P2 = p + (putN m).length + (putN n).length := by omega
      subst hP
      refine ⟨rfl, by rw [g2]; simp; omega, Q, putN m ++ putN n ++ X, g3, g4, by rw [g5, n4, m4]; simp, ?_, ?_⟩
      · rw [g6, encT_snoc, ← hbh]
        have u1 : (bh + (m : Int) - bh).toNat = m := by omega
        have u2 : ((n : Nat) : Int).toNat = n := by omega
        simp only [u1, u2, List.append_assoc]
      · obtain ⟨b, g8⟩ := g7
        exact ⟨b, by rw [show i + (k + 1) = i + 1 + k by omega]; exact g8⟩
theorem dec_back {bs : List UInt8} {X : Ar} {c : Nat} (h : decA bs = (some X, c)) : encB X = bs ∧ X.Ok ∧ X.nx = 0 := by
  unfold decA at h
  split at h
  · simp at h
  · obtain ⟨r, q, e, hr⟩ : ∃ r q e, rdA bs = (r, q, e) := ⟨_, _, _, rfl⟩
    rw [hr] at h
    cases r with
    | none =>
      have h9 : ((none : Option Ar), 4) = (some X, c) := h
      cases h9
    | some zh =>
      obtain ⟨z, hs⟩ := zh
      try simp only at h
      split at h
      · next hq =>
        obtain ⟨rfl, rfl⟩ := hq
        simp only [Prod.mk.injEq, Option.some.injEq] at h
        obtain ⟨rfl, rfl⟩ := h
        obtain ⟨z1, p1, e1, h0⟩ : ∃ z p1 e1, rdN bs 0 0 = (z, p1, e1) := ⟨_, _, _, rfl⟩
        obtain ⟨N, p2, e2, h1⟩ : ∃ z q c, rdN bs p1 e1 = (z, q, c) := ⟨_, _, _, rfl⟩
        by_cases hz : 1 ≤ z1 ∧ z1 ≤ 1048576
        · obtain ⟨r9, q9, e9, hL⟩ : ∃ r q e, rdL bs z1 N 0 0 p2 e2 [] = (r, q, e) := ⟨_, _, _, rfl⟩
          cases r9 with
          | none => rw [rdA_none h0 hz h1 hL] at hr; simp at hr
          | some hs9 =>
            rw [rdA_some h0 hz h1 hL] at hr
            simp only [Prod.mk.injEq, Option.some.injEq] at hr
            obtain ⟨⟨rfl, rfl⟩, rfl, rfl⟩ := hr
            have hp2 : ∃ P2 : Nat, p2 = (P2 : Int) ∧ P2 ≤ bs.length := by
              have := getAt_pl bs p1
              by_cases h9 : e1 = 0
              · subst h9
                unfold rdN at h1
                rw [if_neg (by simp)] at h1
                simp only [Prod.mk.injEq] at h1
                exact ⟨p2.toNat, by omega, by omega⟩
              · rw [rdN_err bs p1 h9] at h1
                simp only [Prod.mk.injEq] at h1
                unfold rdN at h0
                rw [if_neg (by simp)] at h0
                simp only [Prod.mk.injEq] at h0
                have := getAt_pl bs 0
                exact ⟨p2.toNat, by omega, by omega⟩
            obtain ⟨P2, rfl, hP2⟩ := hp2
            obtain ⟨rfl, g2, Q, X, g3, g4, g5, g6, b, g7⟩ := rdL_back hz.2 N 0 0 P2 e2 [] hs9 _ hP2 (RdOk.start z1) rfl hL
            have he1 : e1 = 0 := Classical.byContradiction fun h9 => by
              rw [rdN_err bs p1 h9] at h1
              simp only [Prod.mk.injEq] at h1
              omega
            subst he1
            obtain ⟨_, m, m1, m2, m3, m4⟩ := rdN_back (p := 0) (Nat.zero_le _) h0 rfl
            subst m2
            obtain ⟨_, n, n1, n2, n3, n4⟩ := rdN_back m3 h1 rfl
            have hok := g7.ok hz.1 hz.2
            have hll := hok.len
            simp only [List.length_nil, Nat.zero_add] at g2 hll
            have hmd : m = z1 := by omega
            have hnd : n = N := by omega
            subst hmd hnd
            have hP : P2 = 0 + (putN m).length + (putN n).length := by omega
            subst hP
            have hQ : Q = bs.length := by omega
            subst hQ
            rw [List.take_length, n4, m4] at g5
            refine ⟨?_, hok, rfl⟩
            rw [g5]
            simp only [encB, g2, List.take_zero, List.nil_append]
            rw [g6]
            rfl
        · rw [rdA_bad h0 hz] at hr; simp at hr
      · simp at h
end Go.Proofs.Ytgihdfmeokbplaa
