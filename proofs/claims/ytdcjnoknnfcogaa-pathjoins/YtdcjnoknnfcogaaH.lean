/- How the statements take the program's functions: behind whatever was made since; strings opened out of a reading. -/
import Derived.Test.YtdcjnoknnfcogaaG
import Derived.SliceStrings
import Derived.SizedLaws
namespace Go.Proofs.Ytdcjnoknnfcogaa
open Go.ChangeShapes Go.WideShapes Go.ChangeAt Go.RowKit
/-- A contract behind whatever was made since. -/
theorem later {w : World} {f : Nat} {args : Array Value} {v : Value} (h : ∀ W, Calls Try.prog f args W fun e w' => e = .returned v ∧ Below W.heap.size W w') :
    Hid (∀ W, Below w.heap.size w W → Calls Try.prog f args W fun e w' => e = .returned v ∧ Below w.heap.size w w') := by
  intro W hW
  refine (h W).mono ?_
  rintro e w' ⟨rfl, hb⟩
  exact ⟨rfl, hW.trans (hb.mono hW.size)⟩
theorem covers_h {w : World} (a b : ByteArray) (ha : a.size ≤ 9223372036854775807) (hb : b.size ≤ 9223372036854775807) :
    Hid (∀ W, Below w.heap.size w W → Calls Try.prog 26 #[.string a, .string b] W fun e w' => e = .returned (.bool (coversL a.data.toList b.data.toList)) ∧ Below w.heap.size w w') := later fun W => covers_any a b W ha hb
theorem place_h {w : World} (a : ByteArray) (ha : a.size ≤ 9223372036854775807) :
    Hid (∀ W, Below w.heap.size w W → Calls Try.prog 15 #[.string a] W fun e w' => e = .returned (.bool (placeL a.data.toList)) ∧ Below w.heap.size w w') := later fun W => place_any a W ha
theorem good_h {w : World} (a : ByteArray) (ha : a.size ≤ 9223372036854775807) :
    Hid (∀ W, Below w.heap.size w W → Calls Try.prog 13 #[.string a] W fun e w' => e = .returned (.bool (goodL a.data.toList)) ∧ Below w.heap.size w w') := later fun W => good_any a W ha
theorem meet_h {w : World} (a b : ByteArray) (ha : a.size ≤ 9223372036854775807) (hb : b.size ≤ 9223372036854775807) :
    Hid (∀ W, Below w.heap.size w W → Calls Try.prog 24 #[.string a, .string b] W fun e w' => e = .returned (.tuple #[.string (strOf (meetL a.data.toList b.data.toList).1), .bool (meetL a.data.toList b.data.toList).2]) ∧ Below w.heap.size w w') := later fun W => meet_any a b W ha hb
theorem moved_h {w : World} (p f t : ByteArray) (hp : p.size ≤ 9223372036854775807) (hf : f.size ≤ 9223372036854775807) (ht : t.size ≤ 9223372036854775807) :
    Hid (∀ W, Below w.heap.size w W → Calls Try.prog 28 #[.string p, .string f, .string t] W fun e w' => e = .returned (.tuple #[.string (strOf (movedL p.data.toList f.data.toList t.data.toList).1), .int .i64 ((movedL p.data.toList f.data.toList t.data.toList).2 : Int)]) ∧ Below w.heap.size w w') := later fun W => moved_any p f t W hp hf ht
theorem lives_h {w : World} : Hid (∀ W, Below w.heap.size w W → Calls Try.prog 10 #[] W fun e w' => e = .returned (.bool true) ∧ Below w.heap.size w w') := later fun W => lives_any W
theorem parts_h {w : World} (a : ByteArray) (ha : a.size ≤ 9223372036854775807) :
    Hid (∀ W, Below w.heap.size w W → Calls Try.prog 18 #[.string a] W fun e w' => ∃ la lc, e = .returned (.slice la (partsL a.data.toList).length lc) ∧ Ss w' la (partsL a.data.toList).length lc ((partsL a.data.toList).map strOf) ∧ Below w.heap.size w w') := by
  intro W hW
  refine (parts_any a W ha).mono ?_
  rintro e w' ⟨la, lc, rfl, hss, hb⟩
  exact ⟨la, lc, rfl, hss, hW.trans (hb.mono hW.size)⟩
theorem short1 (a : ByteArray) (w : World) (ha : a.size ≤ 9223372036854775807) :
    Calls Try.prog 9 #[.slice (some ⟨w.heap.size, 0, none⟩) 1 1] (w.alloc (.cells #[.string a] 9)) fun e w' => e = .returned (.bool (shortB [a])) ∧ w' = w.alloc (.cells #[.string a] 9) :=
  short_any _ _ _ _ _ (Ss.one w a) (fun i h => by match i, h with | 0, _ => exact ha)
theorem short2 (a b : ByteArray) (w : World) (ha : a.size ≤ 9223372036854775807) (hb : b.size ≤ 9223372036854775807) :
    Calls Try.prog 9 #[.slice (some ⟨w.heap.size, 0, none⟩) 2 2] (w.alloc (.cells #[.string a, .string b] 9)) fun e w' => e = .returned (.bool (shortB [a, b])) ∧ w' = w.alloc (.cells #[.string a, .string b] 9) :=
  short_any _ _ _ _ _ (Ss.two w a b) (fun i h => by match i, h with | 0, _ => exact ha | 1, _ => exact hb)
theorem short3 (a b c : ByteArray) (w : World) (ha : a.size ≤ 9223372036854775807) (hb : b.size ≤ 9223372036854775807) (hc : c.size ≤ 9223372036854775807) :
    Calls Try.prog 9 #[.slice (some ⟨w.heap.size, 0, none⟩) 3 3] (w.alloc (.cells #[.string a, .string b, .string c] 9)) fun e w' => e = .returned (.bool (shortB [a, b, c])) ∧ w' = w.alloc (.cells #[.string a, .string b, .string c] 9) :=
  short_any _ _ _ _ _ (Ss.three w a b c) (fun i h => by match i, h with | 0, _ => exact ha | 1, _ => exact hb | 2, _ => exact hc)
theorem mem_weightsAll {H : Type} {P : Program} {e : TypeId} {d : DataW H} : ∀ {l : List (DataW H)}, d ∈ l → ∀ n ∈ d.weights P e, n ∈ DataW.weightsAll P e l
  | x :: l, h, n, hn => by
    simp only [DataW.weightsAll, List.mem_append]
    rcases List.mem_cons.1 h with rfl | h
    · exact .inl hn
    · exact .inr (mem_weightsAll h n hn)
theorem strs_of {H : Type} {enc : TypeId × Value → H} {W : World} {base : Nat} {held : Bool} {fuel : Nat} {a : Option Addr} {len cap : Nat} {d : DataW H} {p : List MemPlace} {ts : List TypeId} {ds : List (DataW H)} {j : Nat}
    (hf : DataW.trod enc Try.prog W base (fun _ => true) held fuel 26 [.slice a len cap] = some (d, p)) (hsz : (DataW.weightsEach Try.prog ts ds).all (· ≤ reachBytes) = true) (ht : ts[j]? = some 26) (hd : ds[j]? = some d) :
    ∃ ss, Ss W a len cap ss ∧ ∀ i (h : i < ss.length), (ss[i]).size ≤ 9223372036854775807 := by
  rcases open_strings Try.underlying26 Try.underlying9 (by kernel_rfl) hf with ⟨hcs, hx⟩ | ⟨x, l, c, all, hcs, _, hl, hm, hz, hx, hcell, _⟩
  · simp only [List.cons.injEq, Value.slice.injEq, and_true] at hcs
    obtain ⟨rfl, rfl, rfl⟩ := hcs
    exact ⟨[], ⟨rfl, by omega, by omega, fun _ => rfl, by intro ad h; cases h⟩, fun i h => absurd h (by simp)⟩
  · simp only [List.cons.injEq, Value.slice.injEq, and_true] at hcs
    obtain ⟨rfl, rfl, rfl⟩ := hcs
    simp only [if_true] at hz
    simp only [Prod.mk.injEq] at hx
    obtain ⟨rfl, _⟩ := hx
    refine ⟨all.take len, ⟨by simp; omega, hl, by simpa [maxLen] using hm, (by intro e; cases e), ?_⟩, ?_⟩
    · intro ad had i hi
      cases had
      simp only [List.length_take] at hi
      rw [hcell i (by omega)]
      simp only [List.getElem_take]
      congr 2
      rw [List.getD_eq_getElem?_getD, List.getElem?_eq_getElem (by omega)]
      rfl
    · intro i hi
      have hmem : (all.take len)[i] ∈ all.take len := List.getElem_mem hi
      have hw := List.all_eq_true.1 hsz ((all.take len)[i]).data.toList.length (DataW.weights_mem_each ht hd _ (by
        simp only [DataW.weights, Try.underlying26, List.mem_cons, List.mem_append]
        refine .inr (.inl (mem_weightsAll (d := .lit (.string ((all.take len)[i]).data.toList)) (List.mem_map.2 ⟨_, hmem, rfl⟩) _ (by simp [DataW.weights]))))
      )
      have h3 : ((all.take len)[i]).size ≤ 140737488351232 := by simpa [reachBytes] using hw
      omega
end Go.Proofs.Ytdcjnoknnfcogaa
