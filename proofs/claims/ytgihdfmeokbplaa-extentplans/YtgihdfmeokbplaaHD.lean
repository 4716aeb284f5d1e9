/- Walks over the document's Get and Put of numbers. -/
import Derived.Test.YtgihdfmeokbplaaNM
import Derived.Laws.BitsAllLaws
import Derived.Laws.Bits64
import Derived.Laws.BytesArg
import Derived.Deep.RegionWith
import Derived.WalkKit
import Derived.WalkSpells
import Derived.WalkLawsBesides
import Derived.Test.YtgihdfmeokbplaaProg
namespace Go.Proofs.Ytgihdfmeokbplaa
open Go.RowKit
def endsB (i c : Int) : Bool := !(decide (0 < i) && decide (c = 0)) && (decide (i < 9) || decide (c ≤ 1))
/-- The three answers of a reading. -/
def ans3 (r : Nat × Int × Nat) : Value := .tuple #[.int .u64 (r.1 : Int), .int .i64 r.2.1, .int .i64 (r.2.2 : Int)]
theorem pow_le9 {k : Nat} (h : k ≤ 9) : (128 : Nat) ^ k ≤ 9223372036854775808 := by
  have : (128 : Nat) ^ k ≤ 128 ^ 9 := Nat.pow_le_pow_right (by omega) h
  have e : (128 : Nat) ^ 9 = 9223372036854775808 := by decide
  omega
theorem pow_le8 {k : Nat} (h : k ≤ 8) : (128 : Nat) ^ k ≤ 72057594037927936 := by
  have : (128 : Nat) ^ k ≤ 128 ^ 8 := Nat.pow_le_pow_right (by omega) h
  have e : (128 : Nat) ^ 8 = 72057594037927936 := by decide
  omega
/-- 'n |= uint64(c%128) << (7*i)': a sum, where it fits. -/
theorem or_step (Z X k : Nat) (hz : Z < 128 ^ k) (hk : k ≤ 8 ∨ (k = 9 ∧ X ≤ 1)) :
    bits .or .u64 (Z : Int) (IntKind.u64.wrap ((X : Int) % 128 * 2 ^ (7 * k))) = ((Z + X % 128 * 128 ^ k : Nat) : Int) := by
  have e1 : ((X : Int) % 128 * 2 ^ (7 * k)) = ((X % 128 * 128 ^ k : Nat) : Int) := by
    rw [Int.natCast_mul, Int.natCast_pow, Int.natCast_emod, Int.pow_mul]; rfl
  have hlt : X % 128 * 128 ^ k < 18446744073709551616 := by
    rcases hk with h | ⟨rfl, h⟩
    · have := pow_le8 h
      have : X % 128 * 128 ^ k ≤ 127 * 72057594037927936 := Nat.mul_le_mul (by omega) this
      omega
    · have : X % 128 * 128 ^ 9 ≤ 1 * 128 ^ 9 := Nat.mul_le_mul_right _ (by omega)
      omega
  have hz9 : Z < 18446744073709551616 := by
    have := pow_le9 (k := k) (by omega)
    omega
  rw [e1, IntKind.wrap_u64, Int.emod_eq_of_lt (by omega) (by omega), u64_or_nat Z _ hz9 hlt]
  congr 1
  have hp : (128 : Nat) ^ k = 2 ^ (7 * k) := by rw [Nat.pow_mul]
  rw [hp] at hz ⊢
  rw [Nat.mul_comm, Nat.or_comm, ← Nat.two_pow_add_eq_or_of_lt hz, Nat.add_comm]
theorem or_any (Z : Nat) (y : Int) (hz : Z < 18446744073709551616) :
    ∃ z' : Nat, bits .or .u64 (Z : Int) (IntKind.u64.wrap y) = (z' : Int) ∧ z' < 18446744073709551616 := by
  obtain ⟨m, hm⟩ : ∃ m : Nat, IntKind.u64.wrap y = (m : Int) := ⟨(IntKind.u64.wrap y).toNat, by rw [IntKind.wrap_u64]; omega⟩
  have hm1 : m < 18446744073709551616 := by rw [IntKind.wrap_u64] at hm; omega
  rw [hm, u64_or_nat Z m hz hm1]
  exact ⟨_, rfl, Nat.or_lt_two_pow (n := 64) hz hm1⟩
/-- What the loop of Get holds behind k rounds. -/
def GetRel (bs : List UInt8) (p k Z : Nat) : Prop :=
  k ≤ 10 ∧ p + k ≤ bs.length ∧ Z < 18446744073709551616 ∧ (k < 10 → Z < 128 ^ k) ∧ getL (bs.drop p) 0 0 = getL (bs.drop (p + k)) k Z
theorem getRel_on {bs : List UInt8} {p k Z : Nat} (h : GetRel bs p k Z) (hk : k < 10) (hlt : p + k < bs.length) {x : Int} (hx : x = ((bs[p + k]'hlt).toNat : Int)) (h1 : 128 ≤ x) :
    ∃ Z', bits .or .u64 (Z : Int) (IntKind.u64.wrap (x % 128 * 2 ^ (7 * k))) = ((Z' : Nat) : Int) ∧ GetRel bs p (k + 1) Z' := by
  obtain ⟨_, _, h3, h4, h5⟩ := h
  subst hx
  have hx255 := (bs[p + k]'hlt).toNat_lt
  rw [getL_on (drop_cons bs (p + k) hlt) hk (by omega)] at h5
  by_cases h9 : k = 9
  · subst h9
    obtain ⟨Z', e, hZ'⟩ := or_any Z (((bs[p + 9]'hlt).toNat : Int) % 128 * 2 ^ (7 * 9)) h3
    exact ⟨Z', e, by omega, by omega, hZ', by omega, by rw [h5, getL_ten, getL_ten]⟩
  · have hz := h4 hk
    refine ⟨_, or_step Z _ k hz (.inl (by omega)), by omega, by omega, ?_, ?_, h5⟩
    · have a := pow_le8 (k := k) (by omega)
      have : (bs[p + k]'hlt).toNat % 128 * 128 ^ k ≤ 127 * 72057594037927936 := Nat.mul_le_mul (by omega) a
      omega
    · intro _
      have : (bs[p + k]'hlt).toNat % 128 * 128 ^ k ≤ 127 * 128 ^ k := Nat.mul_le_mul_right _ (by omega)
      rw [Nat.pow_succ]; omega
theorem getAt_in {bs : List UInt8} {p : Nat} (h : p ≤ bs.length) : getAt bs (p : Int) = ((getL (bs.drop p) 0 0).1, if (getL (bs.drop p) 0 0).2.2 = 0 then (p : Int) + (getL (bs.drop p) 0 0).2.1 else 0, (getL (bs.drop p) 0 0).2.2) := by
  unfold getAt
  rw [if_neg (by omega)]
  simp
theorem getRel_ok {bs : List UInt8} {p k Z : Nat} (h : GetRel bs p k Z) (hk : k < 10) (hlt : p + k < bs.length) {x : Int} (hx : x = ((bs[p + k]'hlt).toNat : Int)) (h1 : x < 128) (he : endsB k x = true) :
    ans3 (getAt bs p) = .tuple #[.int .u64 (bits .or .u64 (Z : Int) (IntKind.u64.wrap (x % 128 * 2 ^ (7 * k)))), .int .i64 ((p : Int) + k + 1), .int .i64 0] := by
  obtain ⟨_, _, h3, h4, h5⟩ := h
  subst hx
  simp only [endsB, Bool.and_eq_true, Bool.not_eq_true', Bool.and_eq_false_iff, decide_eq_false_iff_not, Bool.or_eq_true, decide_eq_true_eq] at he
  rw [getL_ok (drop_cons bs (p + k) hlt) hk (by omega) (by omega)] at h5
  rw [getAt_in (by omega), h5, or_step Z _ k (h4 hk) (by omega)]
  simp only [ans3, if_true]
  rw [show (bs[p + k]'hlt).toNat % 128 = (bs[p + k]'hlt).toNat by omega]
  congr 5
theorem getRel_bad {bs : List UInt8} {p k Z : Nat} (h : GetRel bs p k Z) (hk : k < 10) (hlt : p + k < bs.length) {x : Int} (hx : x = ((bs[p + k]'hlt).toNat : Int)) (h1 : x < 128) (he : endsB k x = false) :
    ans3 (getAt bs p) = .tuple #[.int .u64 0, .int .i64 0, .int .i64 4] := by
  obtain ⟨_, _, h3, h4, h5⟩ := h
  subst hx
  simp only [endsB, Bool.and_eq_false_iff, Bool.not_eq_false', Bool.and_eq_true, decide_eq_true_eq, Bool.or_eq_false_iff, decide_eq_false_iff_not] at he
  rw [getL_bad (drop_cons bs (p + k) hlt) hk (by omega) (by omega)] at h5
  rw [getAt_in (by omega), h5]
  rfl
theorem getRel_end {bs : List UInt8} {p k Z : Nat} (h : GetRel bs p k Z) (hk : k < 10) (hlt : ¬ p + k < bs.length) :
    ans3 (getAt bs p) = .tuple #[.int .u64 0, .int .i64 0, .int .i64 3] := by
  obtain ⟨_, _, h3, h4, h5⟩ := h
  rw [getL_end (List.drop_eq_nil_of_le (by omega)) hk] at h5
  rw [getAt_in (by omega), h5]
  rfl
theorem getRel_ten {bs : List UInt8} {p k Z : Nat} (h : GetRel bs p k Z) (hk : ¬ k < 10) :
    ans3 (getAt bs p) = .tuple #[.int .u64 0, .int .i64 0, .int .i64 4] := by
  obtain ⟨h1, _, h3, h4, h5⟩ := h
  obtain rfl : k = 10 := by omega
  rw [getL_ten] at h5
  rw [getAt_in (by omega), h5]
  rfl
theorem ret_valN {a b : Value} (h : a = b) : Ending.returned a = .returned b := by rw [h]
theorem getAt_neg {bs : List UInt8} {p : Int} (h : p < 0) : ans3 (getAt bs p) = .tuple #[.int .u64 0, .int .i64 0, .int .i64 9] := by
  unfold getAt; rw [if_pos (.inl h)]; rfl
theorem getAt_past {bs : List UInt8} {p : Int} (h : (bs.length : Int) < p) : ans3 (getAt bs p) = .tuple #[.int .u64 0, .int .i64 0, .int .i64 9] := by
  unfold getAt; rw [if_pos (.inr h)]; rfl
theorem getAt_last {bs : List UInt8} {p : Int} (h : (bs.length : Int) = p) : ans3 (getAt bs p) = .tuple #[.int .u64 0, .int .i64 0, .int .i64 3] := by
  subst h; rw [getAt_in (Nat.le_refl _), List.drop_eq_nil_of_le (Nat.le_refl _)]; rfl
theorem wrap_step (Z X U k : Nat) (hU : U = 128 ^ k) (hz : Z < 128 ^ k) (hk : k ≤ 8 ∨ (k = 9 ∧ X ≤ 1)) :
    IntKind.u64.wrap ((Z : Int) + IntKind.u64.wrap ((X : Int) % 128 * (U : Int))) = ((Z + X % 128 * 128 ^ k : Nat) : Int) := by
  subst hU
  have h1 : ((X : Int) % 128 * ((128 ^ k : Nat) : Int)) = ((X % 128 * 128 ^ k : Nat) : Int) := by
    rw [Int.natCast_mul, Int.natCast_emod]; rfl
  have hlt : Z + X % 128 * 128 ^ k < 18446744073709551616 := by
    rcases hk with h | ⟨rfl, h⟩
    · have := pow_le8 h
      have : X % 128 * 128 ^ k ≤ 127 * 72057594037927936 := Nat.mul_le_mul (by omega) this
      omega
    · have : X % 128 * 128 ^ 9 ≤ 1 * 128 ^ 9 := Nat.mul_le_mul_right _ (by omega)
      omega
  rw [h1, IntKind.wrap_u64, IntKind.wrap_u64]
  omega
/-- One round of the document's Get, where the byte says that there is more. -/
theorem rel_more {bs : List UInt8} {p k Z X : Nat} (h : GetRel bs p k Z) (hk : k < 9) (hlt : p + k < bs.length) (hx : (bs[p + k]'hlt).toNat = X) (h1 : 128 ≤ X) : GetRel bs p (k + 1) (Z + X % 128 * 128 ^ k) := by
  obtain ⟨Z', e, h'⟩ := getRel_on h (by omega) hlt (x := (X : Int)) (by omega) (by omega)
  rw [or_step Z X k (h.2.2.2.1 (by omega)) (.inl (by omega))] at e
  have : Z + X % 128 * 128 ^ k = Z' := by exact_mod_cast e
  rw [this]; exact h'
theorem rel_fin {bs : List UInt8} {p k Z X : Nat} (h : GetRel bs p k Z) (hk : k < 10) (hlt : p + k < bs.length) (hx : (bs[p + k]'hlt).toNat = X) (h1 : X < 128) (he : ¬ ((0 < k ∧ X = 0) ∨ (k = 9 ∧ 1 < X))) :
    ans3 (getAt bs p) = .tuple #[.int .u64 ((Z + X % 128 * 128 ^ k : Nat) : Int), .int .i64 ((p : Int) + k + 1), .int .i64 0] := by
  rw [getRel_ok h hk hlt (x := (X : Int)) (by omega) (by omega) (by simp [endsB]; omega), or_step Z X k (h.2.2.2.1 hk) (by omega)]
theorem rel_none {bs : List UInt8} {p k Z X : Nat} (h : GetRel bs p k Z) (hk : k < 10) (hlt : p + k < bs.length) (hx : (bs[p + k]'hlt).toNat = X) (he : (X < 128 ∧ 0 < k ∧ X = 0) ∨ (k = 9 ∧ X ≠ 1)) :
    ans3 (getAt bs p) = .tuple #[.int .u64 0, .int .i64 0, .int .i64 4] := by
  by_cases h1 : X < 128
  · exact getRel_bad h hk hlt (x := (X : Int)) (by omega) (by omega) (by simp [endsB]; omega)
  · obtain ⟨Z', _, h'⟩ := getRel_on h hk hlt (x := (X : Int)) (by omega) (by omega)
    exact getRel_ten h' (by omega)
/-- One byte, made a string. -/
theorem conv_oneN (W : World) (g c : Nat) (x : Int) (h : W.cell? ⟨g, 0, none⟩ = some (.int .u8 x)) : (convert 48 9 (.slice (some ⟨g, 0, none⟩) 1 c)).run Try.prog W = .ok (.string (strOfNums [x])) W := by
  refine run_convert_bytes_arg W 48 5 Try.underlying48 Try.underlying5 g 0 1 c [x] rfl (fun i hi => ?_) 9 Try.underlying9
  obtain rfl : i = 0 := by omega
  simpa using h
def putS (n : Nat) : ByteArray := ⟨(putN n).toArray⟩
theorem putS_small {x : Int} (h : x < 128) : putS x.toNat = strOfNums [x] := by
  unfold putS strOfNums; rw [putN_small (by omega)]; rfl
theorem putS_more {x : Int} (_h0 : 0 ≤ x) (h : ¬ x < 128) : putS x.toNat = strOfNums [x % 128 + 128] ++ putS (x / 128).toNat := by
  unfold putS strOfNums
  rw [putN_more (by omega), ByteArray.mk_append_mk]
  have e1 : (x % 128 + 128).toNat = x.toNat % 128 + 128 := by omega
  have e2 : (x / 128).toNat = x.toNat / 128 := by omega
  simp only [List.map_cons, List.map_nil, e1, e2, List.singleton_append]
theorem putS_size (n : Nat) : (putS n).size = (putN n).length := by simp [putS, ByteArray.size]
theorem bcell {W w1 : World} (hb : Below W.heap.size W w1) : (∀ b o, b < W.heap.size → w1.cell? ⟨b, o, none⟩ = W.cell? ⟨b, o, none⟩) ∧ (∀ b o, b < W.heap.size → w1.frozen? ⟨b, o, none⟩ = W.frozen? ⟨b, o, none⟩) :=
  ⟨fun b o h => hb.cell (p := ⟨b, o, none⟩) h, fun b o h => hb.frozen (p := ⟨b, o, none⟩) h⟩
theorem undrewN {B : Nat} {w w' : World} (hb : Below B w.drew w') : Below B w w' := ⟨hb.os, hb.tape, hb.output, hb.size, hb.block⟩
theorem below_after {w w' : World} {o : Obj} (hb : Below (w.alloc o).heap.size (w.alloc o) w') : Below w.heap.size w w' :=
  ((Below.refl _ _).alloc (Nat.le_refl _) o).trans (hb.mono (by simp))
set_option maxRecDepth 100000 in
set_option maxHeartbeats 400000 in
theorem rput_small (x : Int) (w : World) (h0 : 0 ≤ x) (h : x < 128) :
    Calls Try.prog 55 #[.int .u64 x] w fun e w' => e = .returned (.string (putS x.toNat)) ∧ Below w.heap.size w w' := by
  have hcv := conv_oneN
  have HS : Hid _ := putS_small h
  go_enter Try.func55, Try.ntmps55
  go_wp2_with fail
  go_ret
  exact ⟨by rw [HS.out]; rfl, (Below.refl _ _).alloc (Nat.le_refl _) _⟩
set_option maxRecDepth 100000 in
set_option maxHeartbeats 400000 in
theorem rput_any (k : Nat) : ∀ (x : Int) (w : World), 0 ≤ x → x < 128 ^ k → x < 18446744073709551616 →
    Calls Try.prog 55 #[.int .u64 x] w fun e w' => e = .returned (.string (putS x.toNat)) ∧ Below w.heap.size w w' := by
  induction k with
  | zero =>
    intro n w h0 hk hn
    exact rput_small n w h0 (by simp at hk; omega)
  | succ k ih =>
    intro x w h0 hk hn
    by_cases h128 : x < 128
    · exact rput_small x w h0 h128
    · have hcv := conv_oneN
      have HS : Hid _ := putS_more h0 h128
      have ih' : ∀ w, Calls Try.prog 55 #[.int .u64 (x / 128)] w fun e w' => e = .returned (.string (putS (x / 128).toNat)) ∧ Below w.heap.size w w' := fun w => ih (x / 128) w (by omega) (by rw [Int.pow_succ] at hk; omega) (by omega)
      have HI : Hid _ := ih'
      have hl1 : (putS (x / 128).toNat).size ≤ 10 := by rw [putS_size]; exact putN_le10 _ (by omega)
      have hl2 : (strOfNums [x % 128 + 128]).size = 1 := by rw [strOfNums_size]; rfl
      have hdv : IntKind.u64.wrap (x.tdiv 128) = x / 128 := by rw [IntKind.wrap_u64, Int.tdiv_eq_ediv_of_nonneg h0]; omega
      have hmd : x.tmod 128 = x % 128 := by rw [Int.tmod_eq_emod_of_nonneg h0]
      have had : IntKind.u64.wrap (x % 128 + 128) = x % 128 + 128 := by rw [IntKind.wrap_u64]; omega
      have hby : IntKind.u8.wrap (x % 128 + 128) = x % 128 + 128 := by rw [IntKind.wrap_u8']; omega
      clear ih ih' hk
      go_enter Try.func55, Try.ntmps55
      go_wp2_with fail
      go_region_with (go_at_call 55; refine (HI.out _).mono ?_; rintro e w' ⟨rfl, hb⟩; obtain ⟨hbc, hbf⟩ := bcell hb)
      all_goals
        go_wp2
        go_ret
        refine ⟨by rw [HS.out]; rfl, ?_⟩
      · exact below_after (undrewN hb)
      · exact below_after (undrewN hb)
      · exact (undrewN hb).alloc hb.size _
theorem rput (x : Int) (w : World) (h0 : 0 ≤ x) (hn : x < 18446744073709551616) :
    Calls Try.prog 55 #[.int .u64 x] w fun e w' => e = .returned (.string (putS x.toNat)) ∧ Below w.heap.size w w' :=
  rput_any 10 x w h0 (by have : (128 : Int) ^ 10 = 1180591620717411303424 := by decide
                         omega) hn
end Go.Proofs.Ytgihdfmeokbplaa
