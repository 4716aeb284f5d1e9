/- Lists that are read: the walk over num.GetList. -/
import Derived.Test.YtbomopjngpnghabW
import Derived.Test.YtbomopjngpnghabQ
namespace Go.Proofs.Ytbomopjngpnghab
open Go.RowKit

/-- So many texts, one behind the other. -/
def textsAt (bs : List UInt8) (most : Int) : Nat → Int → List (List UInt8) × Int × Nat
  | 0, q => ([], q, 0)
  | n + 1, q =>
    if (textAt bs q most).2.2 ≠ 0 then ([], 0, (textAt bs q most).2.2)
    else if (textsAt bs most n (textAt bs q most).2.1).2.2 ≠ 0 then ([], 0, (textsAt bs most n (textAt bs q most).2.1).2.2)
    else ((textAt bs q most).1 :: (textsAt bs most n (textAt bs q most).2.1).1, (textsAt bs most n (textAt bs q most).2.1).2.1, 0)
/-- A list, at a place. -/
def listAt (bs : List UInt8) (p many most : Int) : List (List UInt8) × Int × Nat :=
  if (cntAt bs p many).2.2 ≠ 0 then ([], 0, (cntAt bs p many).2.2) else textsAt bs most (cntAt bs p many).1 (cntAt bs p many).2.1

/-- Texts that are there already, ahead of a reading's. -/
def glue (acc : List (List UInt8)) (r : List (List UInt8) × Int × Nat) : List (List UInt8) × Int × Nat := if r.2.2 ≠ 0 then ([], 0, r.2.2) else (acc ++ r.1, r.2.1, 0)

theorem textsAt_shape (bs : List UInt8) (most : Int) : ∀ (n : Nat) (q : Int), (textsAt bs most n q).2.2 ≠ 0 → textsAt bs most n q = ([], 0, (textsAt bs most n q).2.2)
  | 0, q, h => absurd rfl h
  | n + 1, q, h => by
    unfold textsAt at h ⊢
    split
    · rfl
    · split
      · rfl
      · rename_i h1 h2
        rw [if_neg h1, if_neg h2] at h
        exact absurd rfl h
theorem glue_nil (bs : List UInt8) (most : Int) (n : Nat) (q : Int) : textsAt bs most n q = glue [] (textsAt bs most n q) := by
  unfold glue
  split
  · rename_i h; exact textsAt_shape bs most n q h
  · rename_i h
    have : (textsAt bs most n q).2.2 = 0 := by simpa using h
    rw [List.nil_append, ← this]

/-- What a loop over a list's texts holds behind k rounds. -/
def LRel (bs : List UInt8) (most : Int) (R : List (List UInt8) × Int × Nat) (n k : Nat) (q : Int) (acc : List (List UInt8)) : Prop :=
  k ≤ n ∧ R = glue acc (textsAt bs most (n - k) q) ∧ acc.length = k ∧ (k : Int) ≤ q ∧ q ≤ bs.length

theorem textAt_ok {bs : List UInt8} {q most : Int} {t : List UInt8} {q' : Int} (h : textAt bs q most = (t, q', 0)) : q < q' ∧ q' ≤ bs.length := by
  unfold textAt at h
  split at h
  · rename_i h1
    simp only [Prod.mk.injEq] at h
    exact absurd h.2.2 h1
  · rename_i h1
    split at h
    · simp only [Prod.mk.injEq] at h
      omega
    · rename_i h2
      simp only [Prod.mk.injEq, and_true] at h
      have hz : (cntAt bs q most).2.2 = 0 := by simpa using h1
      obtain ⟨hg, _⟩ := cntAt_ok (bs := bs) (p := q) (most := most) (n := (cntAt bs q most).1) (q := (cntAt bs q most).2.1) (Prod.ext rfl (Prod.ext rfl hz))
      obtain ⟨P, Q, e1, e2, e3, e4, _⟩ := getAt_ok hg
      omega
theorem LRel.next {bs : List UInt8} {most : Int} {R : List (List UInt8) × Int × Nat} {n k : Nat} {q : Int} {acc : List (List UInt8)} (h : LRel bs most R n k q acc) (hk : k < n) {t : List UInt8} {q' : Int} (ht : textAt bs q most = (t, q', 0)) :
    LRel bs most R n (k + 1) q' (acc ++ [t]) := by
  obtain ⟨h1, h2, h3, h4, h5⟩ := h
  have hq := textAt_ok ht
  refine ⟨by omega, ?_, by simp [h3], by omega, hq.2⟩
  rw [h2, show n - k = (n - (k + 1)) + 1 by omega, textsAt, ht]
  generalize textsAt bs most (n - (k + 1)) q' = r
  simp only [ne_eq, not_true_eq_false, if_false]
  unfold glue
  by_cases hr : r.2.2 = 0
  · simp [hr]
  · simp [hr]
theorem LRel.fail {bs : List UInt8} {most : Int} {R : List (List UInt8) × Int × Nat} {n k : Nat} {q : Int} {acc : List (List UInt8)} (h : LRel bs most R n k q acc) (hk : k < n) {t : List UInt8} {q' : Int} {er : Nat} (ht : textAt bs q most = (t, q', er)) (he : er ≠ 0) :
    R = ([], 0, er) := by
  obtain ⟨h1, h2, h3, h4, h5⟩ := h
  rw [h2, show n - k = (n - (k + 1)) + 1 by omega, textsAt, ht]
  simp only
  rw [if_pos he]
  unfold glue
  rw [if_pos he]
theorem LRel.fin {bs : List UInt8} {most : Int} {R : List (List UInt8) × Int × Nat} {n k : Nat} {q : Int} {acc : List (List UInt8)} (h : LRel bs most R n k q acc) (hk : ¬ k < n) : R = (acc, q, 0) := by
  obtain ⟨h1, h2, h3, h4, h5⟩ := h
  rw [h2, show n - k = 0 by omega]
  simp [textsAt, glue]

theorem info9 : (Try.prog.info? 9).map (fun i => (i.zero, i.size, i.bytes)) = some (some (.string ByteArray.empty), 1, 16) := by kernel_rfl

/-- Strings, as the cells of a row. -/
def strsV (ts : List (List UInt8)) : List Value := ts.map fun t => .string (strOf t)

theorem Ss.owned {w : World} {base : Nat} {v : Value} {n : Nat} {ts : List (List UInt8)} (h : w.ownsRow base 9 1 v n (strsV ts)) : ∃ a cap, v = .slice a n cap ∧ Ss w a n cap (ts.map strOf) ∧ ∀ ad, a = some ad → base ≤ ad.block := by
  have hl : ts.length = n := by have := h.1; simpa [strsV] using this
  have hc := fun g hg => h.cells (g := g) hg
  obtain ⟨_, h2⟩ := h
  rcases h2 with ⟨rfl, rfl⟩ | ⟨g', cap', cur, rfl, hbg, _, h3, h4, _⟩
  · have : ts = [] := List.eq_nil_of_length_eq_zero hl
    subst this
    exact ⟨none, 0, rfl, ⟨rfl, by omega, by omega, fun _ => rfl, by intro ad h; cases h⟩, by intro ad h; cases h⟩
  · refine ⟨_, _, rfl, ⟨by simpa using hl, h3, by simpa [maxLen] using h4, (by intro e; cases e), ?_⟩, by intro ad h; cases h; exact hbg⟩
    intro ad had i hi
    cases had
    exact hc g' rfl i _ (by simp at hi; simp [strsV, hi])

set_option maxHeartbeats 800000 in
theorem glist_any (a : Option Addr) (len cap : Nat) (bs : List UInt8) (p many most : Int) (ts : List (List UInt8)) (q : Int) (er : Nat) (hr : listAt bs p many most = (ts, q, er)) (w : World) (h : Bs w a len cap bs) (hlen : len ≤ 1000000)
    (hp : -9223372036854775808 ≤ p ∧ p ≤ 9223372036854775807) (hmy : -9223372036854775808 ≤ many ∧ many ≤ 9223372036854775807) (hm : -9223372036854775808 ≤ most ∧ most ≤ 9223372036854775807) :
    Calls Try.prog 9 #[.slice a len cap, .int .i64 p, .int .i64 many, .int .i64 most] w fun e w' => ∃ la ln lc, e = .returned (.tuple #[.slice la ln lc, .int .i64 q, .int .i64 (er : Int)]) ∧ Ss w' la ln lc (ts.map strOf) ∧ Below w.heap.size w w' ∧ ∀ ad, la = some ad → w.heap.size ≤ ad.block := by
  obtain ⟨n0, q0, er0, hr0⟩ : ∃ n q er, cntAt bs p many = (n, q, er) := ⟨_, _, _, rfl⟩
  unfold listAt at hr
  rw [hr0] at hr
  simp only at hr
  have HR : Hid (cntAt bs p many = (n0, q0, er0)) := hr0
  by_cases he : er0 = 0
  · subst he
    rw [if_neg (by simp)] at hr
    obtain ⟨hg, hmx⟩ := cntAt_ok hr0
    obtain ⟨P, Q, rfl, rfl, hPQ, hQ, _, hn⟩ := getAt_ok hg
    have hn0 : (n0 : Int) ≤ 9223372036854775807 := by omega
    have hst : LRel bs most (ts, q, er) n0 0 (Q : Int) [] := ⟨by omega, by rw [← hr, Nat.sub_zero]; exact glue_nil bs most n0 Q, rfl, by omega, by omega⟩
    have HL : Hid (bs.length = len) := h.1
    have HB : Hid (Bs w a len cap bs) := h
    have HM : Hid _ := hm
    obtain ⟨i0, hi, hz0, hz1, hz2⟩ := info_parts info9
    clear hr0 hg hr hmx h hm
    go_enter Try.func9, Try.ntmps9
    go_wp2_with (go_at_call 17; refine (count_any _ _ _ bs _ _ n0 Q 0 HR.out _ HB.out hp hmy).mono ?_; rintro e w' ⟨rfl, hw⟩; subst w')
    go_loopw [12, 14, 30] (fun pl v i wr => ∃ (k : Nat) (x : Int) (acc : List (List UInt8)), i = .int .i64 k ∧ pl = .int .i64 x ∧ LRel bs most (ts, q, er) n0 k x acc ∧ wr.ownsRow w.heap.size 9 1 v k (strsV acc) ∧ Below w.heap.size w wr) (fun _ _ i _ => n0 - (intOf i).toNat)
    case atStart => exact ⟨0, Q, [], rfl, rfl, hst, World.ownsRow_nil _ _ _ _, Below.refl _ _⟩
    case round =>
      clear hst
      obtain ⟨k, x, acc, rfl, rfl, hrel, hown, hbel⟩ := hrel
      have hk := hrel.1
      have hx1 := hrel.2.2.2.1
      have hx2 : x ≤ len := by have := hrel.2.2.2.2; have := HL.out; omega
      by_cases hkn : k < n0
      · obtain ⟨t, x', er', ht⟩ : ∃ t x' er', textAt bs x most = (t, x', er') := ⟨_, _, _, rfl⟩
        have HT : Hid (textAt bs x most = (t, x', er')) := ht
        have hbs := HB.out.below hbel
        by_cases he' : er' = 0
        · subst he'
          have hnx := hrel.next hkn ht
          have hk2 : k ≤ 1000000 := by omega
          clear ht
          go_wp2_with (first
            | (go_at_call 18; refine (gtext_any _ _ _ bs _ _ t x' 0 HT.out _ hbs (by omega) HM.out).mono ?_; rintro e w' ⟨rfl, hw⟩; subst w')
            | (at_builtin; refine wpList_append_own _ rfl (.tmp 43) (.tmp 45) 23 rfl w.heap.size 9 i0 (.string ByteArray.empty) 1 16 Try.underlying23 hi hz0 hz1 hz2 rfl (by decide) _ k (strsV acc) rfl (hown.alloc _) ⟨wr.heap.size, 0, none⟩ 1 1 [.string (strOf t)] rfl rfl (one_new _ _ _) (by simp [Value.oneCell']) (by unfold maxLen; omega) (by omega) (by have := hbel.size; simp; omega) ?_))
          intro v' w1 hown1 hgrow1 _
          have hown1' : w1.ownsRow w.heap.size 9 1 v' (k + 1) (strsV (acc ++ [t])) := by simpa [strsV] using hown1
          have hbel1 : Below w.heap.size w w1 := (hbel.alloc hbel.size _).grown hgrow1 (by have := hbel.size; simp; omega) (fun j hj => (hown.lt j hj).1)
          clear hown1 hgrow1 hown hrel hbs
          go_wp2
          go_roundw
          case rel => exact ⟨k + 1, x', acc ++ [t], by go_num, rfl, hnx, hown1', hbel1⟩
          case measure => simp [intOf]; omega
        · have HF : Hid ((ts, q, er) = ([], 0, er')) := hrel.fail hkn ht he'
          have her' : ((er' : Int) == 0) = false := by simp [he']
          clear ht hrel
          go_wp2_with (go_at_call 18; refine (gtext_any _ _ _ bs _ _ t x' er' HT.out _ hbs (by omega) HM.out).mono ?_; rintro e w' ⟨rfl, hw⟩; subst w')
          go_ret3
          have hf := HF.out
          simp only [Prod.mk.injEq] at hf
          obtain ⟨rfl, rfl, rfl⟩ := hf
          exact ⟨none, 0, 0, rfl, ⟨rfl, by omega, by omega, fun _ => rfl, by intro ad h; cases h⟩, hbel, by intro ad h; cases h⟩
      · have HF : Hid ((ts, q, er) = (acc, x, 0)) := hrel.fin hkn
        clear hrel
        obtain ⟨la, lc, hv, hss, hnew⟩ := Ss.owned hown
        rw [hv]
        go_wp2
        go_ret3
        have hf := HF.out
        simp only [Prod.mk.injEq] at hf
        obtain ⟨rfl, rfl, rfl⟩ := hf
        exact ⟨la, k, lc, rfl, hss, hbel, hnew⟩
  · rw [if_pos he] at hr
    simp only [Prod.mk.injEq] at hr
    obtain ⟨rfl, rfl, rfl⟩ := hr
    have her' : ((er0 : Int) == 0) = false := by simp [he]
    clear hr0
    go_enter Try.func9, Try.ntmps9
    go_wp2_with (go_at_call 17; refine (count_any _ _ _ bs _ _ n0 q0 er0 HR.out _ h hp hmy).mono ?_; rintro e w' ⟨rfl, hw⟩; subst w')
    go_ret3
    exact ⟨none, 0, 0, rfl, ⟨rfl, by omega, by omega, fun _ => rfl, by intro ad h; cases h⟩, Below.refl _ _, by intro ad h; cases h⟩
end Go.Proofs.Ytbomopjngpnghab
