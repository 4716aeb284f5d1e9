/- A walk over the statements' lives. -/
import Derived.Test.YtnafalkcgghjgaaGreatDoorSY
namespace Go.Proofs.YtnafalkcgghjgaaGreatDoor
open Go.RowKit Go.Shelf
def sA : ByteArray := ⟨#[97]⟩
def sB : ByteArray := ⟨#[98]⟩
def sX : ByteArray := ⟨#[120]⟩
def sY : ByteArray := ⟨#[121]⟩
theorem sl_one (x y : UInt8) : sl ⟨#[x]⟩ ⟨#[y]⟩ = decide (x < y) := by
  unfold sl
  rw [ByteArray.toList_eq, ByteArray.toList_eq]
  simp [Op.bytesLess]
theorem slAA : sl sA sA = false := sl_irr _
theorem slAB : sl sA sB = true := by unfold sA sB; rw [sl_one]; decide
theorem slBA : sl sB sA = false := sl_asym slAB
theorem slBB : sl sB sB = false := sl_irr _
theorem put1 : putT [] sA sX = [(sA, sX)] := rfl
theorem put2 : putT [(sA, sX)] sB sY = [(sA, sX), (sB, sY)] := by
  unfold putT restT isT lowT highT
  simp [slAB, hasK]
theorem range2 : rangeT [(sA, sX), (sB, sY)] sA sB 1 = [(sA, sX)] := by
  unfold rangeT
  simp [slAA, slBA, slBB]
theorem sz1 : szL [(sA, sX)] = 5 := rfl
theorem sz2 : szL [(sA, sX), (sB, sY)] = 10 := rfl
theorem mayA : May (sA, sX) := by unfold May sA sX; decide
theorem mayB : May (sB, sY) := by unfold May sB sY; decide
set_option maxRecDepth 100000 in
set_option maxHeartbeats 4000000 in
theorem lives_any (w : World) : Calls Tryz.prog 9 #[] w fun e w' => e = .returned (.bool true) ∧ Below w.heap.size w w' := by
  have HO := opened_any 3 (by omega) (by omega) w
  go_enter Tryz.func9, Tryz.ntmps9
  go_wp2_with fail
  refine HO.mono ?_
  rintro e w1 ⟨g, jb, sb, F, S, L, rfl, ht, hl, hj, hb⟩
  have HB1 : Hid (Below w.heap.size w w1) := hb
  have HP1 := put_any ht sA sX mayA
  unfold PutTo at HP1
  rw [hl, show flat [(⟨0, []⟩ : Lf)] = [] from rfl, show sA = (⟨#[97]⟩ : ByteArray) from rfl, show sX = (⟨#[120]⟩ : ByteArray) from rfl] at HP1
  have hw1 : w.heap.size ≤ w1.heap.size := hb.size
  clear HO ht hl hb
  go_wp2_with fail
  refine HP1.mono ?_
  rintro e w2 ⟨F2, L2, ht2, hf2, hb2, hres⟩
  have hok : e = .returned (.int .i64 0) ∧ flat (lfs L2) = [(sA, sX)] := by
    rcases hres with h | ⟨_, _, hlt⟩
    · exact h
    · exfalso
      have h6 : 510 * (3 - 2) < szL [(sA, sX)] := hlt
      rw [sz1] at h6
      omega
  obtain ⟨rfl, hfl⟩ := hok
  have hfl2 : flat (lfs L2) = [(sA, sX)] := hfl
  have HP2 := put_any ht2 sB sY mayB
  unfold PutTo at HP2
  rw [hfl2, put2, show sB = (⟨#[98]⟩ : ByteArray) from rfl, show sY = (⟨#[121]⟩ : ByteArray) from rfl] at HP2
  have HB2 : Hid (Below w.heap.size w w2) := HB1.out.trans hb2
  clear HP1 ht2 hf2 hb2 hfl hfl2 hres
  go_wp2_with fail
  refine HP2.mono ?_
  rintro e w3 ⟨F3, L3, ht3, hf3, hb3, hres⟩
  have hok : e = .returned (.int .i64 0) ∧ flat (lfs L3) = [(sA, sX), (sB, sY)] := by
    rcases hres with h | ⟨_, _, hlt⟩
    · exact h
    · exfalso
      have h6 : 510 * (3 - 2) < szL [(sA, sX), (sB, sY)] := hlt
      rw [sz2] at h6
      omega
  obtain ⟨rfl, hfl⟩ := hok
  have hfl3 : flat (lfs L3) = [(sA, sX), (sB, sY)] := hfl
  have HR := range_any ht3 sA sB 1
  rw [hfl3, range2, show sA = (⟨#[97]⟩ : ByteArray) from rfl, show sB = (⟨#[98]⟩ : ByteArray) from rfl, show sX = (⟨#[120]⟩ : ByteArray) from rfl] at HR
  have HT3 : Hid (Tab w.heap.size F3 w3 S g (Dk.new (8 * 3 + 1) nought) sb jb 3 L3 L) := ht3
  have HF3 : Hid (flat (lfs L3) = [(sA, sX), (sB, sY)]) := hfl3
  have HB3 : Hid (Below w.heap.size w w3) := HB2.out.trans hb3
  clear HP2 ht3 hf3 hb3 hfl hfl3 hres
  go_wp2_with fail
  refine HR.mono ?_
  rintro e w4 ⟨ra, rn, rc, rfl, hown, hb4⟩
  have hrn : rn = 1 := by
    have := hown.1
    unfold prV at this
    rw [fm_len prC_len] at this
    simp at this
    omega
  subst hrn
  obtain ⟨gr, cr, er, _, _⟩ := hown.form (by omega)
  cases er
  have c0 : w4.cell? ⟨gr, 0, none⟩ = some (.string ⟨#[97]⟩) := own_at hown rfl
  have c1 : w4.cell? ⟨gr, 1, none⟩ = some (.string ⟨#[120]⟩) := own_at hown rfl
  have HT4 := HT3.out.below hb4
  have HLN := len_any HT4
  rw [HF3.out] at HLN
  have HLN : Calls Tryz.prog 23 #[.pointer (some ⟨sb, 0, none⟩)] w4 fun e w' => e = .returned (.int .i64 2) ∧ Below w4.heap.size w4 w' := HLN
  have hep := eq_pair ⟨#[97]⟩ ⟨#[120]⟩ ⟨#[97]⟩ ⟨#[120]⟩
  rw [decide_eq_true ⟨rfl, rfl⟩] at hep
  have HB4 : Hid (Below w.heap.size w w4) := HB3.out.trans (hb4.mono HB3.out.size)
  have HTT : Hid (Tab w.heap.size (mor F3 w3 w4) w4 S g (Dk.new (8 * 3 + 1) nought) sb jb 3 L3 L) := HT4
  clear HR hown hb4 HT4
  go_wp2_with fail
  refine HLN.mono ?_
  rintro e w5 ⟨rfl, hb5⟩
  have HSZ := size_any' (HTT.out.below hb5)
  rw [HF3.out] at HSZ
  have HSZ : Calls Tryz.prog 24 #[.pointer (some ⟨sb, 0, none⟩)] w5 fun e w' => e = .returned (.int .i64 10) ∧ Below w5.heap.size w5 w' := HSZ
  have HB5 : Hid (Below w.heap.size w w5) := HB4.out.trans (hb5.mono HB4.out.size)
  clear HLN hb5
  go_wp2_with fail
  refine HSZ.mono ?_
  rintro e w6 ⟨rfl, hb6⟩
  have HB6 : Hid (Below w.heap.size w w6) := HB5.out.trans (hb6.mono HB5.out.size)
  clear HSZ hb6
  go_wp2
  go_ret
  exact ⟨rfl, HB6.out⟩
theorem lives_h {w0 w : World} (h : Below w0.heap.size w0 w) : Calls Tryz.prog 9 #[] w fun e w' => e = .returned (.bool true) ∧ Below w0.heap.size w0 w' := by
  refine (lives_any w).mono ?_
  rintro e w' ⟨rfl, hb⟩
  exact ⟨rfl, h.trans (hb.mono h.size)⟩
end Go.Proofs.YtnafalkcgghjgaaGreatDoor
