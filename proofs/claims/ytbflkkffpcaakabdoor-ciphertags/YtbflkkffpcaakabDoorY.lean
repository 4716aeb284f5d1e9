/- Walks over the program's Sum, a nil Hash, and what the statements' lives asks. -/
import Derived.Test.YtbflkkffpcaakabDoorV
import Derived.Test.YtbflkkffpcaakabDoorE
namespace Go.Proofs.YtbflkkffpcaakabDoor
open Go.RowKit
/-- Bytes as they lie in memory. -/
def BsI (w : World) (a : Option Addr) (len cap : Nat) (bs : List UInt8) : Prop :=
  bs.length = len ∧ len ≤ cap ∧ cap ≤ 9223372036854775807 ∧ (0 < len → ∃ bb bo, a = some ⟨bb, bo, none⟩ ∧ bb < w.heap.size ∧ ∀ i, i < len → w.cell? ⟨bb, bo + i, none⟩ = some (.int .u8 (((bs.getD i 0).toNat : Nat) : Int)))
theorem BsI.below {w w' : World} {a : Option Addr} {len cap : Nat} {bs : List UInt8} (h : BsI w a len cap bs) (hb : Below w.heap.size w w') : BsI w' a len cap bs := by
  obtain ⟨h1, h2, h3, h4⟩ := h
  refine ⟨h1, h2, h3, fun h0 => ?_⟩
  obtain ⟨bb, bo, e, hlt, hc⟩ := h4 h0
  exact ⟨bb, bo, e, Nat.lt_of_lt_of_le hlt hb.size, fun i hi => by rw [hb.cell hlt]; exact hc i hi⟩
theorem BsI.at {w w' : World} {a : Option Addr} {len cap : Nat} {bs : List UInt8} (h : BsI w a len cap bs) (hb : Below w.heap.size w w') (g : Nat) (hg : w.heap.size ≤ g) : BsA w' g a len cap bs := by
  obtain ⟨h1, h2, h3, h4⟩ := h
  refine ⟨h1, h2, h3, fun h0 => ?_⟩
  obtain ⟨bb, bo, e, hlt, hc⟩ := h4 h0
  exact ⟨bb, bo, e, by omega, Nat.lt_of_lt_of_le hlt hb.size, fun i hi => by rw [hb.cell hlt]; exact hc i hi⟩
theorem BsI.nil (w : World) : BsI w none 0 0 [] := ⟨rfl, Nat.le_refl _, by omega, by omega⟩

set_option maxRecDepth 100000 in
set_option maxHeartbeats 1000000 in
theorem sum_is (a : Option Addr) (len cap : Nat) (bs : List UInt8) (w : World) (hb : BsI w a len cap bs) (hlen : len ≤ 2305843009213693952) (hL : Laid w) :
    Calls Tryd.prog 26 #[.slice a len cap] w fun e w' => e = .returned (.string (strOf (digest bs))) ∧ Below w.heap.size w w' := by
  obtain ⟨v0, v1, v2, v3, v4, v5, v6, v7, hv⟩ := ivL_lit
  have c0 : w.cell? ⟨1, 0, none⟩ = some (.int .u32 (v0 : Int)) := by have := hL.f 0 (by omega); rw [hv] at this; exact this
  have c1 : w.cell? ⟨1, 1, none⟩ = some (.int .u32 (v1 : Int)) := by have := hL.f 1 (by omega); rw [hv] at this; exact this
  have c2 : w.cell? ⟨1, 2, none⟩ = some (.int .u32 (v2 : Int)) := by have := hL.f 2 (by omega); rw [hv] at this; exact this
  have c3 : w.cell? ⟨1, 3, none⟩ = some (.int .u32 (v3 : Int)) := by have := hL.f 3 (by omega); rw [hv] at this; exact this
  have c4 : w.cell? ⟨1, 4, none⟩ = some (.int .u32 (v4 : Int)) := by have := hL.f 4 (by omega); rw [hv] at this; exact this
  have c5 : w.cell? ⟨1, 5, none⟩ = some (.int .u32 (v5 : Int)) := by have := hL.f 5 (by omega); rw [hv] at this; exact this
  have c6 : w.cell? ⟨1, 6, none⟩ = some (.int .u32 (v6 : Int)) := by have := hL.f 6 (by omega); rw [hv] at this; exact this
  have c7 : w.cell? ⟨1, 7, none⟩ = some (.int .u32 (v7 : Int)) := by have := hL.f 7 (by omega); rw [hv] at this; exact this
  have h2 : 3 ≤ w.heap.size := hL.lt
  obtain ⟨W1, hW1⟩ : ∃ W, W = (w.alloc (.cells zero73 65)).setRow w.heap.size (hcells [v0, v1, v2, v3, v4, v5, v6, v7] zeros64 0) := ⟨_, rfl⟩
  have hs : [v0, v1, v2, v3, v4, v5, v6, v7].length = 8 := rfl
  have hz : zeros64.length = 64 := rfl
  have hsz : (hcells [v0, v1, v2, v3, v4, v5, v6, v7] zeros64 0).size = 73 := hcells_size hs hz
  have hsto : (storeCells ⟨w.heap.size, 0, none⟩ (hcells [v0, v1, v2, v3, v4, v5, v6, v7] zeros64 0).toList).run Tryd.prog (w.alloc (.cells zero73 65)) = .ok () W1 := by rw [hW1]; exact store73 _ _ [v0, v1, v2, v3, v4, v5, v6, v7] zeros64 0 hs hz (heap_alloc_new _ _)
  have sz1 : W1.heap.size = w.heap.size + 1 := by rw [hW1, size_setRow]; simp
  have HB1 : Hid (Below w.heap.size w W1) := by rw [hW1]; exact Go.Proofs.YtbflkkffpcaakabDoor.below_setRow ((Below.refl _ w).alloc (Nat.le_refl _) _) _ (Nat.le_refl _) _
  have HWR : Hid (Calls Tryd.prog 29 #[.pointer (some ⟨w.heap.size, 0, none⟩), .slice a len cap] W1 fun e w2 => e = .returned (.tuple #[]) ∧ HashIs w2 w.heap.size bs ∧ Below w.heap.size w w2) := by
    refine (write_any w.heap.size [] a len cap bs W1 h2 ⟨[v0, v1, v2, v3, v4, v5, v6, v7], zeros64, hv ▸ hash_none, ?_⟩ (hb.at HB1.out _ (Nat.le_refl _)) (by rw [hb.1]; simp; omega) (hL.below HB1.out)).mono ?_
    · rw [hW1]; exact setRow_heap _ _ _ _ _ _ (heap_alloc_new _ _)
    · rintro e w2 ⟨rfl, hH2, hO2⟩
      exact ⟨rfl, hH2, Below.only HB1.out (by omega) (Nat.le_refl _) hO2⟩
  have HS : Hid (∀ w2, HashIs w2 w.heap.size bs → Below w.heap.size w w2 → Calls Tryd.prog 30 #[.pointer (some ⟨w.heap.size, 0, none⟩)] w2 fun e w3 => e = .returned (.string (strOf (digest bs))) ∧ Below w.heap.size w w3) := by
    intro w2 hH hB
    refine (hsum_any w.heap.size bs w2 hH (by rw [hb.1]; omega) (hL.below hB)).mono ?_
    rintro e w3 ⟨rfl, hb3⟩
    exact ⟨rfl, hB.trans (hb3.mono hB.size)⟩
  clear hv hW1 hs hz hL hb sz1 HB1
  go_enter Tryd.func26, Tryd.ntmps26
  go_wp2_with (first | simp only [zero58] | (refine wpList_build58 v0 v1 v2 v3 v4 v5 v6 v7 rfl _ rfl rfl ?_) | (go_at_call 29; refine HWR.out.mono ?_; rintro e w2 ⟨rfl, hH2, hB2⟩; have HH2 : Hid (HashIs w2 w.heap.size bs) := hH2; have HB2 : Hid (Below w.heap.size w w2) := hB2; clear hH2 hB2) | (go_at_call 30; refine (HS.out _ HH2.out HB2.out).mono ?_; rintro e w3 ⟨rfl, hB3⟩))
  go_ret
  exact ⟨rfl, hB3⟩

theorem digest_len (l : List UInt8) : (digest l).length = 32 := by unfold digest; rw [bytes_len, mixTo_len]
theorem nil_head : (strOf (digest [])).extract 0 4 = { data := #[227, 176, 196, 66] } := by
  have e : (strOf (digest [])).extract 0 4 = strOf ((digest []).take 4) := by
    apply ByteArray.ext
    simp [strOf, ByteArray.extract, ByteArray.copySlice, List.extract]
  rw [e, digest_nil]
  rfl

set_option maxRecDepth 100000 in
theorem write_nil (v : Value) (w : World) : Calls Tryd.prog 29 #[.pointer none, v] w fun e w' => e = .returned (.tuple #[]) ∧ w' = w := by
  go_enter Tryd.func29, Tryd.ntmps29
  go_wp2
  refine bodyPost_ret (v := .tuple #[]) ?_ rfl ⟨rfl, rfl⟩
  simp [results, go_sem]
set_option maxRecDepth 100000 in
theorem hsum_nil (w : World) : Calls Tryd.prog 30 #[.pointer none] w fun e w' => e = .returned (.string ⟨#[]⟩) ∧ w' = w := by
  go_enter Tryd.func30, Tryd.ntmps30
  go_wp2
  go_ret
  exact ⟨rfl, rfl⟩
end Go.Proofs.YtbflkkffpcaakabDoor
