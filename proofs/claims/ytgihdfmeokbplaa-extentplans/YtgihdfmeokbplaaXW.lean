/- Walk over Decode. -/
import Derived.Test.YtgihdfmeokbplaaXV
namespace Go.Proofs.Ytgihdfmeokbplaa
open Go.RowKit Ex
/-- What Decode answers: an area, or the word. -/
def decA (bs : List UInt8) : Option Ar × Nat :=
  if 65536 < bs.length then (none, 2)
  else match rdA bs with
    | (some (z, hs), q, c) => if c = 0 ∧ q = (bs.length : Int) then (some ⟨z, hs, 0⟩, 0) else (none, 4)
    | (none, _) => (none, 4)
theorem decA_none {bs : List UInt8} {q : Int} {c : Nat} (hl : ¬ 65536 < bs.length) (h : rdA bs = (none, q, c)) : decA bs = (none, 4) := by
  unfold decA; rw [if_neg hl, h]
theorem decA_some {bs : List UInt8} {z : Nat} {hs : List Sp} {q : Int} {c : Nat} (hl : ¬ 65536 < bs.length) (h : rdA bs = (some (z, hs), q, c)) : decA bs = if c = 0 ∧ q = (bs.length : Int) then (some ⟨z, hs, 0⟩, 0) else (none, 4) := by
  unfold decA; rw [if_neg hl, h]
def DecTo (w w' : World) (bs : List UInt8) (e : Ending) : Prop :=
  match decA bs with
  | (none, c) => e = .returned (.tuple #[.pointer none, .int .i64 (c : Int)]) ∧ Below w.heap.size w w'
  | (some X, _) => ∃ ab, e = .returned (.tuple #[.pointer (some ⟨ab, 0, none⟩), .int .i64 0]) ∧ AIs w' (fresh w w') ab X ∧ Below w.heap.size w w'
theorem DecTo.no {w w' : World} {bs : List UInt8} {c : Nat} (h : decA bs = (none, c)) (hb : Below w.heap.size w w') : DecTo w w' bs (.returned (.tuple #[.pointer none, .int .i64 (c : Int)])) := by
  unfold DecTo; rw [h]; exact ⟨rfl, hb⟩
theorem DecTo.yes {w w' : World} {bs : List UInt8} {X : Ar} {ab c : Nat} (h : decA bs = (some X, c)) (ha : AIs w' (fresh w w') ab X) (hb : Below w.heap.size w w') : DecTo w w' bs (.returned (.tuple #[.pointer (some ⟨ab, 0, none⟩), .int .i64 0])) := by
  unfold DecTo; rw [h]; exact ⟨ab, rfl, ha, hb⟩
theorem AIs.wide {w : World} {S T : Nat → Prop} {ab : Nat} {X : Ar} (h : AIs w S ab X) (hs : ∀ x, S x → T x) (hb : ∀ x, T x → x < w.heap.size) : AIs w T ab X := by
  obtain ⟨ha, hc, h⟩ := h
  exact ⟨ha, hc, h.ok, h.c, h.h, h.ne, hs _ h.Sa, fun x hx => hs x (h.Sh x hx), hb⟩
set_option maxRecDepth 100000 in
set_option maxHeartbeats 2000000 in
theorem decode_any {w : World} {a : Option Addr} {len cap : Nat} {bs : List UInt8} (hb : Bs w a len cap bs) : Calls Try.prog 25 #[.slice a len cap] w fun e w' => DecTo w w' bs e := by
  have hlen := hb.1
  by_cases hl : 65536 < len
  · have HX : Hid (DecTo w w bs (.returned (.tuple #[.pointer none, .int .i64 ((2 : Nat) : Int)]))) := DecTo.no (by unfold decA; rw [if_pos (by omega)]) (Below.refl _ _)
    have kk : (65536 : Int) < (len : Int) := by omega
    clear hl hlen hb
    go_enter Try.func25, Try.ntmps25
    go_wp2
    go_ret2
    exact HX.out
  · obtain ⟨B, hB⟩ : ∃ B, w.heap.size = B := ⟨_, rfl⟩
    obtain ⟨W1, hW1⟩ : ∃ W1, w.alloc (.cells #[.slice a len cap, .int .i64 0, .int .i64 0] 92) = W1 := ⟨_, rfl⟩
    have hb1 : Below w.heap.size w W1 := by rw [← hW1]; exact (Below.refl _ _).alloc (Nat.le_refl _) _
    have hr1 : W1.heap[B]? = some (rdR a len cap 0 0) := by rw [← hW1, ← hB]; exact heap_alloc_new _ _
    have HUB : Hid (∀ V, Upd (fun x => x = B) W1 V → Below w.heap.size w V) := fun V hu => hb1.trans (hu.below hb1.size (fun x hx => by omega))
    have HS1 : Hid (w.heap.size ≤ W1.heap.size) := hb1.size
    have HA := rdarea_any hr1 (fun V hu => hb.below (HUB.out V hu)) (by omega)
    have kk : ¬ (65536 : Int) < (len : Int) := by omega
    have HL : Hid (¬ 65536 < bs.length ∧ bs.length = len) := ⟨by omega, hlen⟩
    have HW1 : Hid (w.alloc (.cells #[.slice a len cap, .int .i64 0, .int .i64 0] 92) = W1) := hW1
    rw [← hW1] at HA
    clear hl hlen hb hb1 hr1 hW1
    go_enter Try.func25, Try.ntmps25
    go_wp2_with fail
    refine HA.mono ?_
    rw [HW1.out]
    rintro e V ⟨r, q, c, hr, hrow, hu, hm⟩
    obtain ⟨_, k1, k2, _, _, _⟩ := rd3 hrow
    have HBV : Hid (Below w.heap.size w V) := HUB.out V hu
    clear HA hrow hu
    cases r with
    | none =>
      simp only at hm
      subst hm
      have HX : Hid (DecTo w V bs (.returned (.tuple #[.pointer none, .int .i64 ((4 : Nat) : Int)]))) := DecTo.no (decA_none HL.out.1 hr) HBV.out
      clear hr
      go_wp2
      go_ret2
      exact HX.out
    | some zh =>
      obtain ⟨z, hs⟩ := zh
      simp only at hm
      obtain ⟨ab, rfl, har⟩ := hm
      have hd := decA_some HL.out.1 hr
      have HAR : Hid (AIs V (fresh w V) ab ⟨z, hs, 0⟩) := har.wide (fun x hx => ⟨Nat.le_trans HS1.out hx.1, hx.2⟩) (fun x hx => hx.2)
      clear hr har
      by_cases hc : c = 0
      · subst hc
        by_cases hq : q = (len : Int)
        · subst hq
          have HX : Hid (DecTo w V bs (.returned (.tuple #[.pointer (some ⟨ab, 0, none⟩), .int .i64 0]))) := DecTo.yes (by rw [hd, if_pos ⟨rfl, by rw [HL.out.2]⟩]) HAR.out HBV.out
          clear hd
          go_wp2
          go_ret2
          exact HX.out
        · have HX : Hid (DecTo w V bs (.returned (.tuple #[.pointer none, .int .i64 ((4 : Nat) : Int)]))) := DecTo.no (by rw [hd, if_neg (fun h => hq (by rw [h.2, HL.out.2]))]) HBV.out
          have kq : (q != (len : Int)) = true := by simpa using hq
          clear hd
          go_wp2
          go_ret2
          exact HX.out
      · have HX : Hid (DecTo w V bs (.returned (.tuple #[.pointer none, .int .i64 ((4 : Nat) : Int)]))) := DecTo.no (by rw [hd, if_neg (fun h => hc h.1)]) HBV.out
        have kc : ¬ (c : Int) = 0 := by omega
        have kn : ((c : Int) != 0) = true := by simpa using kc
        clear hd
        go_wp2
        go_ret2
        exact HX.out
end Go.Proofs.Ytgihdfmeokbplaa
