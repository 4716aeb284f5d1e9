/- The document's table: Same, Find, Get, Size, Range. -/
import Derived.Test.YtnafalkcgghjgaaGreatDoorSA
import Derived.Test.YtnafalkcgghjgaaGreatDoorTM
import Derived.BigQuiet
namespace Go.Proofs.YtnafalkcgghjgaaGreatDoor
open Go.RowKit
theorem below_drewN {B : Nat} {a w : World} (h : Below B a w) : ∀ n : Nat, Below B a (w.drewN n)
  | 0 => by rw [World.drewN_zero]; exact h
  | n + 1 => by rw [← World.drew_drewN]; exact (below_drewN h n).drew
theorem eqin_pair (a b c d : ByteArray) (w : World) : (Op.equalIn 10000 63 (.agg #[.string a, .string b]) (.agg #[.string c, .string d])).run Tryz.prog w = .ok (decide (a = c ∧ b = d)) w := by
  have u9 := Tryz.underlying9
  have a9 := Tryz.isAgg9
  have z9 := Tryz.sizeOf9
  have hS : Tryz.prog.underlying 63 = some (.struct (Tryz.prog.fieldsOf 63)) := by kernel_rfl
  have hp : Tryz.prog.stoodInHeld 63 = false := by kernel_rfl
  rw [show (10000 : Nat) = 9999 + 1 from rfl, run_equalIn_agg w 9999 63 _ _ hS hp]
  simp only [Program.fieldsOf, Tryz.underlying63]
  go_simp
  by_cases h1 : a = c
  · subst h1
    by_cases h2 : b = d
    · subst h2; simp
    · have := str_ne h2
      simp [h2, this]
  · have := str_ne h1
    simp [h1, this]
theorem leq_sl (a b : ByteArray) : (Op.bytesLess a.toList b.toList || a.toList == b.toList) = !sl b a := by
  unfold sl
  cases h1 : Op.bytesLess b.toList a.toList with
  | true =>
    have h2 : Op.bytesLess a.toList b.toList = false := sl_asym (a := b) (b := a) h1
    have h3 : (a.toList == b.toList) = false := by
      have h4 := sl_ne (a := b) (b := a) h1
      exact str_nb (fun e => h4 e.symm)
    rw [h2, h3]; rfl
  | false =>
    cases h2 : Op.bytesLess a.toList b.toList with
    | true => rfl
    | false =>
      have := sl_tot (a := a) (b := b) h2 h1
      subst this
      simp
theorem take_eq_succ {l k : List Pr} {i : Nat} {p q : Pr} (h : l.take i = k.take i) (hp : l[i]? = some p) (hq : k[i]? = some q) (e : p = q) : l.take (i + 1) = k.take (i + 1) := by
  rw [take_snoc hp, take_snoc hq, h, e]
set_option maxRecDepth 100000 in
set_option maxHeartbeats 1000000 in
theorem same_any {G H : Nat → Prop} {w : World} {a : Option Addr} {n c : Nat} {la : List Pr} {b : Option Addr} {m d : Nat} {lb : List Pr} (ha : Pw G w a n c la) (hb : Pw H w b m d lb) :
    Calls Tryz.prog 17 #[.slice a n c, .slice b m d] w fun e w' => e = .returned (.bool (decide (la = lb))) ∧ Below w.heap.size w w' := by
  have hla := ha.len
  have hlb := hb.len
  have hmx : n ≤ 9223372036854775807 := by have h1 := ha.2.1; have h2 := ha.2.2.1; unfold maxLen at h2; omega
  by_cases hnm : n = m
  · subst hnm
    have HA : Hid (∀ W, Below w.heap.size w W → Pw G W a n c la ∧ Pw H W b n d lb) := fun W hW => ⟨ha.below hW, hb.below hW⟩
    clear ha hb
    go_enter Tryz.func17, Tryz.ntmps17
    go_wp2
    go_loopw [5] (fun v wr => ∃ i : Nat, i ≤ n ∧ v = .int .i64 i ∧ la.take i = lb.take i ∧ Below w.heap.size w wr) (fun v _ => n - (intOf v).toNat)
    case atStart => exact ⟨0, by omega, rfl, rfl, Below.refl _ _⟩
    case round =>
      obtain ⟨i, hi, rfl, htk, hbw⟩ := hrel
      by_cases hlt : i < n
      · have kk : (i : Int) < (n : Int) := by omega
        obtain ⟨h1, h2⟩ := HA.out wr hbw
        obtain ⟨ab, ao, rfl, _, _, hc⟩ := h1.at (by omega)
        obtain ⟨bb, bo, rfl, _, _, hd⟩ := h2.at (by omega)
        have hp : la[i]? = some la[i] := List.getElem?_eq_getElem (by omega)
        have hq : lb[i]? = some lb[i] := List.getElem?_eq_getElem (by omega)
        obtain ⟨⟨p1, p2⟩, hpe⟩ : ∃ p, la[i]'(by omega) = p := ⟨_, rfl⟩
        obtain ⟨⟨q1, q2⟩, hqe⟩ : ∃ q, lb[i]'(by omega) = q := ⟨_, rfl⟩
        rw [hpe] at hp
        rw [hqe] at hq
        obtain ⟨c1, c2⟩ := hc i _ hp
        obtain ⟨d1, d2⟩ := hd i _ hq
        simp only at c1 c2 d1 d2
        have he := fun W => eqin_pair p1 p2 q1 q2 W
        obtain ⟨y, hy⟩ : ∃ y, decide (p1 = q1 ∧ p2 = q2) = y := ⟨_, rfl⟩
        rw [hy] at he
        have HE : Hid (decide (p1 = q1 ∧ p2 = q2) = y ∧ la[i]? = some (p1, p2) ∧ lb[i]? = some (q1, q2) ∧ la.take i = lb.take i ∧ Below w.heap.size w wr) := ⟨hy, hp, hq, htk, hbw⟩
        clear hc hd hp hq hpe hqe hy htk hbw h1 h2
        cases y with
        | true =>
          go_wp2
          go_quiet (fail)
          go_wp2
          refine ⟨⟨i + 1, by omega, by go_num, ?_, below_drewN HE.out.2.2.2.2 _⟩, by simp [intOf]; omega⟩
          have h5 := of_decide_eq_true HE.out.1
          exact take_eq_succ HE.out.2.2.2.1 HE.out.2.1 HE.out.2.2.1 (Prod.ext h5.1 h5.2)
        | false =>
          go_wp2
          go_quiet (fail)
          go_wp2
          go_ret
          have hd : decide (la = lb) = false := decide_eq_false fun e => by
            have h5 := HE.out.2.1
            rw [e, HE.out.2.2.1] at h5
            have h6 := Option.some.inj h5
            have h7 := of_decide_eq_false HE.out.1
            rw [Prod.mk.injEq] at h6
            exact h7 ⟨h6.1.symm, h6.2.symm⟩
          rw [hd]
          exact ⟨rfl, below_drewN HE.out.2.2.2.2 _⟩
      · obtain rfl : i = n := by omega
        have kk : ¬ (i : Int) < (i : Int) := by omega
        have HE : Hid (la.take i = lb.take i ∧ Below w.heap.size w wr) := ⟨htk, hbw⟩
        clear htk hbw
        go_wp2
        go_ret
        have hd : decide (la = lb) = true := decide_eq_true (by
          have h5 := HE.out.1
          rw [List.take_of_length_le (by omega), List.take_of_length_le (by omega)] at h5
          exact h5)
        rw [hd]
        exact ⟨rfl, HE.out.2⟩
  · have hne : ¬ (n : Int) = (m : Int) := by omega
    have hnb : ((n : Int) == (m : Int)) = false := by simpa using hne
    clear ha hb
    go_enter Tryz.func17, Tryz.ntmps17
    go_wp2
    go_ret
    have hd : decide (la = lb) = false := decide_eq_false fun e => by rw [e] at hla; omega
    rw [hd]
    exact ⟨rfl, Below.refl _ _⟩
end Go.Proofs.YtnafalkcgghjgaaGreatDoor
