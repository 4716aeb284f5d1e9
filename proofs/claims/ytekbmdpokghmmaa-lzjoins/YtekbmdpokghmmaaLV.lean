/- The document's Unpack; the same tokens. -/
import Derived.Test.YtekbmdpokghmmaaLU
namespace Go.Proofs.Ytekbmdpokghmmaa
open Go.RowKit Lz
/-- What Unpack makes of bytes, up to so many. -/
def US (bs : List UInt8) (most : Int) (o : List UInt8) (c : Nat) : Prop :=
  (begL bs = none ∧ o = [] ∧ c = 4) ∨
  (∃ n k, begL bs = some (n, k) ∧ max most 0 < (n : Int) ∧ o = [] ∧ c = 2) ∨
  (∃ n k, begL bs = some (n, k) ∧ (n : Int) ≤ max most 0 ∧ (∀ us, ¬ Right n (bs.drop k) us) ∧ o = [] ∧ c = 4) ∨
  (∃ n k ts, begL bs = some (n, k) ∧ (n : Int) ≤ max most 0 ∧ Right n (bs.drop k) ts ∧ o = outL ts ∧ c = 0)
theorem US.unique {bs : List UInt8} {most : Int} {o o' : List UInt8} {c c' : Nat} (h : US bs most o c) (h' : US bs most o' c') : o = o' ∧ c = c' := by
  rcases h with ⟨h1, rfl, rfl⟩ | ⟨n, k, h1, h2, rfl, rfl⟩ | ⟨n, k, h1, h2, h3, rfl, rfl⟩ | ⟨n, k, ts, h1, h2, h3, rfl, rfl⟩ <;>
  rcases h' with ⟨g1, rfl, rfl⟩ | ⟨m, j, g1, g2, rfl, rfl⟩ | ⟨m, j, g1, g2, g3, rfl, rfl⟩ | ⟨m, j, us, g1, g2, g3, rfl, rfl⟩ <;>
  first
  | exact ⟨rfl, rfl⟩
  | (rw [h1] at g1; cases g1 <;> first | omega | exact absurd h3 (g3 _) | exact absurd g3 (h3 _) | (have := h3.unique g3; subst this; exact ⟨rfl, rfl⟩))
theorem unpack_us {w : World} {a : Option Addr} {len cap : Nat} {bs : List UInt8} (h : Bs w a len cap bs) (most : Int) : Calls Try.prog 10 #[.slice a len cap, .int .i64 most] w fun e w' => ∃ o c a' c', US bs most o c ∧ e = .returned (.tuple #[.slice a' o.length c', .int .i64 (c : Int)]) ∧ Bs w' a' o.length c' o ∧ Below w.heap.size w w' := by
  refine (unpack_any h most).mono ?_
  rintro e w' ⟨hb, h⟩
  rcases h with ⟨h, rfl⟩ | ⟨n, k, h, h2, rfl⟩ | ⟨n, k, h, h2, h3, rfl⟩ | ⟨n, k, ts, a, c, h, h2, h3, rfl, h5⟩
  · exact ⟨[], 4, none, 0, .inl ⟨h, rfl, rfl⟩, rfl, Bs.nil _, hb⟩
  · exact ⟨[], 2, none, 0, .inr (.inl ⟨n, k, h, h2, rfl, rfl⟩), rfl, Bs.nil _, hb⟩
  · exact ⟨[], 4, none, 0, .inr (.inr (.inl ⟨n, k, h, h2, h3, rfl, rfl⟩)), rfl, Bs.nil _, hb⟩
  · have hl : (outL ts).length = n := by rw [outL_len, h3.n]
    refine ⟨outL ts, 0, a, c, .inr (.inr (.inr ⟨n, k, ts, h, h2, h3, rfl, rfl⟩)), by rw [hl]; rfl, ?_, hb⟩
    rw [hl]; exact own_bs h5
/-- What the document's Unpack answers. -/
def RuTo (w : World) (bs : List UInt8) (most : Int) (e : Ending) (w' : World) : Prop := ∃ o c, US bs most o c ∧ e = .returned (.tuple #[.string (strOf o), .int .i64 ((c : Nat) : Int)]) ∧ Below w.heap.size w w'
set_option maxRecDepth 100000 in
set_option maxHeartbeats 4000000 in
theorem runpack_any (bs : List UInt8) (hl : bs.length ≤ 100000) (most : Int) (hm : -9223372036854775808 ≤ most ∧ most ≤ 9223372036854775807) (w : World) : Calls Try.prog 11 #[.string (strOf bs), .int .i64 most] w (RuTo w bs most) := by
  have hz : (strOf bs).size = bs.length := strOf_size bs
  have HG := rget_any (strOf bs) 0 w (by omega) (by omega) (by omega)
  rw [show (strOf bs).data.toList = bs from rfl, getAt0] at HG
  have hn := getL_lt bs
  obtain ⟨n, k, c, hg⟩ : ∃ m k c, getL bs 0 0 = (m, k, c) := ⟨_, _, _, rfl⟩
  have hbeg : begL bs = if c = 0 ∧ n ≤ 65536 then some (n, k) else none := by unfold begL; rw [hg]
  rw [hg] at HG hn
  simp only [ans3] at HG hn
  have HRT := rtokens_any bs hl w
  obtain ⟨T, hT⟩ : ∃ T, strOf bs = T := ⟨_, rfl⟩
  rw [hT] at HG HRT ⊢
  have HRT : Hid (Calls Try.prog 13 #[.string T] w (RtTo w bs)) := HRT
  clear hg hT hz
  by_cases hc : ¬ c = 0
  · have HUS : Hid (US bs most [] 4) := .inl ⟨by rw [hbeg, if_neg (by omega)], rfl, rfl⟩
    rw [if_neg hc] at HG
    have k1 : ¬ (c : Int) = 0 := by omega
    have kb : ((c : Int) == 0) = false := by simpa using k1
    have kn : ((c : Int) != 0) = true := by simpa using k1
    have HG : Hid (Calls Try.prog 24 #[.string T, .int .i64 0] w fun e w' => e = .returned (.tuple #[.int .u64 (n : Int), .int .i64 0, .int .i64 (c : Int)]) ∧ w' = w) := HG
    clear hbeg hc
    go_enter Try.func11, Try.ntmps11
    go_wp2_with fail
    refine HG.out.mono ?_
    rintro e w' ⟨rfl, h⟩; subst w'
    go_wp2
    go_ret2
    exact ⟨[], 4, HUS.out, rfl, Below.refl _ _⟩
  have hc : c = 0 := by omega
  subst hc
  rw [if_pos rfl] at HG
  have HG : Hid (Calls Try.prog 24 #[.string T, .int .i64 0] w fun e w' => e = .returned (.tuple #[.int .u64 (n : Int), .int .i64 (k : Int), .int .i64 0]) ∧ w' = w) := HG
  by_cases hs : ¬ n ≤ 65536
  · have HUS : Hid (US bs most [] 4) := .inl ⟨by rw [hbeg, if_neg (by omega)], rfl, rfl⟩
    have k1 : (65536 : Int) < (n : Int) := by omega
    clear hbeg
    go_enter Try.func11, Try.ntmps11
    go_wp2_with fail
    refine HG.out.mono ?_
    rintro e w' ⟨rfl, h⟩; subst w'
    go_wp2
    go_ret2
    exact ⟨[], 4, HUS.out, rfl, Below.refl _ _⟩
  have hs : n ≤ 65536 := by omega
  have k1 : ¬ (65536 : Int) < (n : Int) := by omega
  rw [if_pos ⟨rfl, hs⟩] at hbeg
  have HE : Hid (begL bs = some (n, k)) := hbeg
  clear hbeg
  by_cases hm0 : most < 0
  · have w0 : IntKind.u64.wrap 0 = 0 := by rw [IntKind.wrap_u64]; omega
    by_cases h0 : (0 : Int) < (n : Int)
    · have HUS : Hid (US bs most [] 2) := .inr (.inl ⟨n, k, HE.out, by omega, rfl, rfl⟩)
      go_enter Try.func11, Try.ntmps11
      go_wp2_with fail
      refine HG.out.mono ?_
      rintro e w' ⟨rfl, h⟩; subst w'
      go_wp2
      go_ret2
      exact ⟨[], 2, HUS.out, rfl, Below.refl _ _⟩
    · have HLE : Hid ((n : Int) ≤ max most 0) := by show (n : Int) ≤ max most 0; omega
      go_enter Try.func11, Try.ntmps11
      go_wp2_with fail
      refine HG.out.mono ?_
      rintro e w' ⟨rfl, h⟩; subst w'
      go_wp2_with fail
      refine HRT.out.mono ?_
      rintro e V ⟨hb, h⟩
      have HB : Hid (Below w.heap.size w V) := hb
      clear hb
      rcases h with ⟨m, ts, a, c, hw, rfl, _⟩ | ⟨hno, v1, v2, rfl⟩
      · obtain ⟨rfl, hr⟩ := whole_some HE.out hw
        have HUS : Hid (US bs most (outL ts) 0) := .inr (.inr (.inr ⟨_, k, ts, HE.out, HLE.out, hr, rfl, rfl⟩))
        clear hw hr
        go_wp2
        go_ret2
        exact ⟨outL ts, 0, HUS.out, rfl, HB.out⟩
      · have HUS : Hid (US bs most [] 4) := .inr (.inr (.inl ⟨n, k, HE.out, HLE.out, fun us hr => hno n us ⟨k, HE.out, hr⟩, rfl, rfl⟩))
        clear hno
        go_wp2
        go_ret2
        exact ⟨[], 4, HUS.out, rfl, HB.out⟩
  · have w0 : IntKind.u64.wrap most = most := by rw [IntKind.wrap_u64]; omega
    by_cases h0 : most < (n : Int)
    · have HUS : Hid (US bs most [] 2) := .inr (.inl ⟨n, k, HE.out, by omega, rfl, rfl⟩)
      have hm1 : ¬ most < 0 := hm0
      go_enter Try.func11, Try.ntmps11
      go_wp2_with fail
      refine HG.out.mono ?_
      rintro e w' ⟨rfl, h⟩; subst w'
      go_wp2
      go_ret2
      exact ⟨[], 2, HUS.out, rfl, Below.refl _ _⟩
    · have HLE : Hid ((n : Int) ≤ max most 0) := by show (n : Int) ≤ max most 0; omega
      have hm1 : ¬ most < 0 := hm0
      go_enter Try.func11, Try.ntmps11
      go_wp2_with fail
      refine HG.out.mono ?_
      rintro e w' ⟨rfl, h⟩; subst w'
      go_wp2_with fail
      refine HRT.out.mono ?_
      rintro e V ⟨hb, h⟩
      have HB : Hid (Below w.heap.size w V) := hb
      clear hb
      rcases h with ⟨m, ts, a, c, hw, rfl, _⟩ | ⟨hno, v1, v2, rfl⟩
      · obtain ⟨rfl, hr⟩ := whole_some HE.out hw
        have HUS : Hid (US bs most (outL ts) 0) := .inr (.inr (.inr ⟨_, k, ts, HE.out, HLE.out, hr, rfl, rfl⟩))
        clear hw hr
        go_wp2
        go_ret2
        exact ⟨outL ts, 0, HUS.out, rfl, HB.out⟩
      · have HUS : Hid (US bs most [] 4) := .inr (.inr (.inl ⟨n, k, HE.out, HLE.out, fun us hr => hno n us ⟨k, HE.out, hr⟩, rfl, rfl⟩))
        clear hno
        go_wp2
        go_ret2
        exact ⟨[], 4, HUS.out, rfl, HB.out⟩
end Go.Proofs.Ytekbmdpokghmmaa
