/- How the statements take the document's functions: behind whatever was made since. -/
import Derived.Test.YtdcjnoknnfcogaaH
import Derived.Test.YtdcjnoknnfcogaaDA
import Derived.Test.YtdcjnoknnfcogaaRA
import Derived.Test.YtdcjnoknnfcogaaRB
namespace Go.Proofs.Ytdcjnoknnfcogaa
open Go.RowKit
theorem same_world {f : Nat} {args : Array Value} {v : Value} {W : World} (h : Calls Try.prog f args W fun e w' => e = .returned v ∧ w' = W) : Calls Try.prog f args W fun e w' => e = .returned v ∧ Below W.heap.size W w' := by
  refine h.mono ?_
  rintro e w' ⟨rfl, rfl⟩
  exact ⟨rfl, Below.refl _ _⟩
theorem name_h {w : World} (a : ByteArray) (ha : a.size ≤ 9223372036854775807) :
    Hid (∀ W, Below w.heap.size w W → Calls Try.prog 11 #[.string a] W fun e w' => e = .returned (.bool (nameL a.data.toList)) ∧ Below w.heap.size w w') := later fun W => name_any a W ha
theorem rname_h {w : World} (a : ByteArray) (ha : a.size ≤ 9223372036854775807) :
    Hid (∀ W, Below w.heap.size w W → Calls Try.prog 12 #[.string a] W fun e w' => e = .returned (.bool (nameL a.data.toList)) ∧ Below w.heap.size w w') := later fun W => same_world (rname_any a W ha)
theorem rgood_h {w : World} (a : ByteArray) (ha : a.size ≤ 9223372036854775807) :
    Hid (∀ W, Below w.heap.size w W → Calls Try.prog 14 #[.string a] W fun e w' => e = .returned (.bool (goodL a.data.toList)) ∧ Below w.heap.size w w') := later fun W => rgood_any a W ha
theorem rplace_h {w : World} (a : ByteArray) (ha : a.size ≤ 9223372036854775807) :
    Hid (∀ W, Below w.heap.size w W → Calls Try.prog 16 #[.string a] W fun e w' => e = .returned (.bool (placeL a.data.toList)) ∧ Below w.heap.size w w') := later fun W => rplace_any a W ha
theorem above_h {w : World} (a : ByteArray) (ha : a.size ≤ 9223372036854775807) :
    Hid (∀ W, Below w.heap.size w W → Calls Try.prog 20 #[.string a] W fun e w' => e = .returned (.string (strOf (aboveL a.data.toList))) ∧ Below w.heap.size w w') := later fun W => above_any a W ha
theorem rabove_h {w : World} (a : ByteArray) (ha : a.size ≤ 9223372036854775807) :
    Hid (∀ W, Below w.heap.size w W → Calls Try.prog 21 #[.string a] W fun e w' => e = .returned (.string (strOf (aboveL a.data.toList))) ∧ Below w.heap.size w w') := later fun W => rabove_any a W ha
theorem rcovers_h {w : World} (a b : ByteArray) (ha : a.size ≤ 9223372036854775807) (hb : b.size ≤ 9223372036854775807) :
    Hid (∀ W, Below w.heap.size w W → Calls Try.prog 27 #[.string a, .string b] W fun e w' => e = .returned (.bool (coversL a.data.toList b.data.toList)) ∧ Below w.heap.size w w') := later fun W => rcovers_any a b W ha hb
theorem rmeet_h {w : World} (a b : ByteArray) (ha : a.size ≤ 9223372036854775807) (hb : b.size ≤ 9223372036854775807) :
    Hid (∀ W, Below w.heap.size w W → Calls Try.prog 25 #[.string a, .string b] W fun e w' => e = .returned (.tuple #[.string (strOf (meetL a.data.toList b.data.toList).1), .bool (meetL a.data.toList b.data.toList).2]) ∧ Below w.heap.size w w') := later fun W => rmeet_any a b W ha hb
/-- The document's Parts behind the program's, both as they lie then. -/
theorem rparts_h {w : World} (a : ByteArray) (ha : a.size ≤ 9223372036854775807) :
    Hid (∀ W, Below w.heap.size w W → Calls Try.prog 19 #[.string a] W fun e w' => ∃ la lc, e = .returned (.slice la (partsL a.data.toList).length lc) ∧ Ss w' la (partsL a.data.toList).length lc ((partsL a.data.toList).map strOf) ∧ Below W.heap.size W w' ∧ Below w.heap.size w w') := by
  intro W hW
  refine (rparts_any a W ha).mono ?_
  rintro e w' ⟨la, lc, rfl, hss, hb⟩
  exact ⟨la, lc, rfl, hss, hb, hW.trans (hb.mono hW.size)⟩
end Go.Proofs.Ytdcjnoknnfcogaa
