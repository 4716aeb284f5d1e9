/- What strings.Join answers, in our own words. -/
import Derived.Test.YtdcjnoknnfcogaaJ
import Derived.Test.YtdcjnoknnfcogaaShelf
namespace Go.Proofs.Ytdcjnoknnfcogaa
open Go.RowKit
theorem join_glue : ∀ ts : List (List UInt8), Lib.join ts [47] = glueL ts
  | [] => rfl
  | [a] => Lib.join_one a [47]
  | a :: b :: r => by
    have ih := join_glue (b :: r)
    rw [glueL_cons a (by simp), ← ih, Lib.join_cons, Lib.join_cons]
    simp [Lib.joinTail]
theorem sjoin : SJoin := by
  intro b off len cap ts W h0 hss h32
  have hlen : (ts.map strOf).length = len := hss.1
  have hcells : ∀ (j : Nat) x, (ts.map strOf)[j]? = some x → W.cell? ⟨b, off + j, none⟩ = some (.string x) := by
    intro j x hx
    obtain ⟨hj, he⟩ := List.getElem?_eq_some_iff.1 hx
    have := hss.2.2.2.2 _ rfl j hj
    rw [add_at] at this
    rw [this, he]
  have hb : b < W.heap.size := by
    have := World.block_lt_of_cell? W _ (hcells 0 _ (List.getElem?_eq_getElem (by omega)))
    exact this
  have hmap : (ts.map strOf).map (fun s => s.data.toList) = ts := by
    rw [List.map_map, show ((fun s : ByteArray => s.data.toList) ∘ strOf) = id from rfl, List.map_id]
  have hj : Lib.join ((ts.map strOf).map (fun s => s.data.toList)) (⟨#[47]⟩ : ByteArray).data.toList = glueL ts := by
    rw [hmap]; exact join_glue ts
  have hl1 : (ts.map strOf).length ≤ 100 := by
    have h1 := glue_len ts (fun e => by subst e; simp at hlen; omega)
    rw [List.length_map]
    omega
  have h := Try.strings_Join b off cap (ts.map strOf) ⟨#[47]⟩ W hcells hb (by omega) (by rw [hlen]; exact hss.2.1) (by rw [hj]; omega)
  rw [hj, hlen] at h
  exact h
end Go.Proofs.Ytdcjnoknnfcogaa
