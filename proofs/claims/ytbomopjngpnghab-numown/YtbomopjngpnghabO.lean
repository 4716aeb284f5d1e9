/- How slices of bytes and arrays are opened out of a reading. -/
import Derived.Test.YtbomopjngpnghabF
import Derived.ProofKit
import Derived.OpenShut
import Derived.ShutString
import Derived.ChangeOld
namespace Go.Proofs.Ytbomopjngpnghab
open Go.ChangeShapes Go.WideShapes Go.ChangeAt Go.RowKit

theorem row_of_trod {H : Type} {enc : TypeId × Value → H} {W : World} {base : Nat} {held : Bool} {fuel : Nat} {c : Value} {y : DataW H × List MemPlace} (hf : DataW.trod enc Try.prog W base (fun _ => true) held fuel 22 [c] = some y) :
    ∃ a len cap bs, c = .slice a len cap ∧ Bs W a len cap bs := by
  rcases open_ints Try.underlying22 Try.underlying5 (by kernel_rfl) hf with ⟨hcs, _⟩ | ⟨x, l, cc, zs, hcs, _, hl, hm, hz, _, hcell, hwz⟩
  · simp only [List.cons.injEq, and_true] at hcs
    exact ⟨_, _, _, [], hcs, Bs.nil W⟩
  · simp only [List.cons.injEq, and_true] at hcs
    obtain ⟨bs, hb⟩ := IsRow.bs (w := W) (a := some x) (len := l) (cap := cc) (zs := zs) (.inr ⟨x, rfl, hl, hm, by simpa using hz, hcell, hwz⟩)
    exact ⟨_, _, _, bs, hcs, hb⟩

end Go.Proofs.Ytbomopjngpnghab
