/- Walks over New and the statements' filled. -/
import Derived.Test.YtnafalkcgghjgaaGreatDoorI
namespace Go.Proofs.YtnafalkcgghjgaaGreatDoor
open Go.RowKit Go.Shelf
/-- The blocks that were made since. -/
def fresh (w w' : World) : Nat → Prop := fun x => w.heap.size ≤ x ∧ x < w'.heap.size
/-- A sector of noughts. -/
def nought : ByteArray := strOf (List.replicate 256 0)
theorem nought_rep : (⟨(Lib.repeatL (⟨#[0]⟩ : ByteArray).data.toList 256).toArray⟩ : ByteArray) = nought := by
  have e : Lib.repeatL [(0 : UInt8)] 256 = List.replicate 256 0 := by decide +kernel
  show (⟨(Lib.repeatL [0] 256).toArray⟩ : ByteArray) = _
  rw [e]; rfl
set_option maxHeartbeats 400000 in
theorem new_bad (x : Int) (w : World) (h : x < 1 ∨ 2048 < x) : Calls Tryz.prog 35 #[.int .i64 x] w fun e w' => e = .returned (.tuple #[.pointer none, .int .i64 1]) ∧ w' = w := by
  by_cases h1 : x < 1
  · clear h
    go_enter Tryz.func35, Tryz.ntmps35
    go_wp2
    go_ret2
    exact ⟨rfl, rfl⟩
  · have h2 : 2048 < x := by omega
    clear h
    go_enter Tryz.func35, Tryz.ntmps35
    go_wp2
    go_ret2
    exact ⟨rfl, rfl⟩
theorem own_rowV (W : World) (g : Nat) (z : ByteArray) (n : Nat) (h : W.heap[g]? = some (.cells (rowV z n n) 9 (0, 0))) (hn : n ≤ 2048) : W.ownsRow 0 9 1 (.slice (some ⟨g, 0, none⟩) n n) n (strsV (List.replicate n z)) := by
  refine ⟨by simp [strsV], .inr ⟨g, n, rowV z n n, rfl, Nat.zero_le _, h, Nat.le_refl _, by unfold maxLen; omega, by rw [rowV_size z n n (Nat.le_refl _)]; omega, ?_⟩⟩
  simp [rowV, strsV]
set_option maxRecDepth 100000 in
set_option maxHeartbeats 1000000 in
theorem new_any (n : Nat) (w : World) (h1 : 1 ≤ n) (h2 : n ≤ 2048) :
    Calls Tryz.prog 35 #[.int .i64 (n : Int)] w fun e w' => ∃ g, e = .returned (.tuple #[.pointer (some ⟨g, 0, none⟩), .int .i64 0]) ∧ DiskIs w' (fresh w w') g (Dk.new n nought) ∧ Below w.heap.size w w' := by
  have k1 : ¬ (n : Int) < 1 := by omega
  have k2 : ¬ (2048 : Int) < (n : Int) := by omega
  have HR := Tryz.strings_Repeat ⟨#[0]⟩ 256 w (by omega) (by decide)
  rw [nought_rep] at HR
  generalize hz : nought = z at HR ⊢
  clear hz
  go_enter Tryz.func35, Tryz.ntmps35
  go_wp2_with fail
  refine HR.mono ?_
  rintro e w1 ⟨rfl, hb1⟩
  clear HR
  obtain ⟨b, hb⟩ : ∃ b, w1.heap.size = b := ⟨_, rfl⟩
  obtain ⟨W2, hW2⟩ : ∃ W2, w1.alloc (.cells #[.string z] 9) = W2 := ⟨_, rfl⟩
  have hB2 : Below w.heap.size w W2 := by rw [← hW2]; exact hb1.alloc hb1.size _
  have HRP := repeat_any b z n W2 h1 h2 (by rw [← hW2, ← hb, cell_of_row _ w1.heap.size _ _ _ _ (heap_alloc_new w1 _)]; rfl)
  obtain ⟨c, hc⟩ : ∃ c, W2.heap.size = c := ⟨_, rfl⟩
  rw [hc] at HRP
  go_wp2_with fail
  refine HRP.mono ?_
  rintro e w3 ⟨rfl, hr3, hb3⟩
  have ho3 := own_rowV w3 c z n hr3 h2
  have HCS := cloneS_any c n n (List.replicate n z) w3 ho3 (by omega)
  have hB3 : Below w.heap.size w w3 := hB2.trans (hb3.mono (by rw [← hc]; exact hB2.size))
  have hcl : c < w3.heap.size := lt_of_some hr3
  clear HRP
  go_wp2_with fail
  refine HCS.mono ?_
  rintro e w4 ⟨g2, k2', rfl, hg2, ho4, hb4⟩
  have ho3' : w4.ownsRow 0 9 1 (.slice (some ⟨c, 0, none⟩) n n) n (strsV (List.replicate n z)) := own_keep ho3 (fun x hx => by rw [ob_slice] at hx; cases hx; exact hb4.block c hcl)
  have hB4 : Below w.heap.size w w4 := hB3.trans (hb4.mono hB3.size)
  have hl2 := (ho4.lt g2 rfl).2
  have hwc : w.heap.size ≤ c := by rw [← hc]; exact hB2.size
  have HF : Hid (∀ W5, W5 = w4.alloc (.cells #[.slice (some ⟨c, 0, none⟩) n n, .slice (some ⟨g2, 0, none⟩) n k2', .slice none 0 0, .int .i64 0, .int .i64 0, .bool true] 97) → DiskIs W5 (fresh w W5) w4.heap.size (Dk.new n z) ∧ Below w.heap.size w W5) := by
    rintro W5 rfl
    have hs : (w4.alloc (.cells #[.slice (some ⟨c, 0, none⟩) n n, .slice (some ⟨g2, 0, none⟩) n k2', .slice none 0 0, .int .i64 0, .int .i64 0, .bool true] 97)).heap.size = w4.heap.size + 1 := by simp
    have hl : (Dk.new n z).kept.length = n := by simp [Dk.new]
    have h34 := hb4.size
    refine ⟨⟨c, n, g2, k2', none, 0, { ok := Dk.Ok.new n z h1 h2, c := ?_, k := ?_, s := ?_, q := World.ownsRow_nil _ _ _ _, kg := by omega, sg := by omega, ks := by omega, wg := (by intro x hx; cases hx), Sg := ?_, Sk := ?_, Ss := ?_, Sw := (by intro x hx; cases hx), bd := fun x hx => hx.2 }⟩, hB4.alloc hB4.size _⟩
    · rw [heap_alloc_new]
      unfold dcells
      rw [hl]
      rfl
    · rw [hl]; exact ho3'.alloc _
    · rw [hl]; exact ho4.alloc _
    · exact ⟨by have := hB4.size; omega, by rw [hs]; omega⟩
    · exact ⟨by omega, by rw [hs]; omega⟩
    · exact ⟨by have := hB3.size; omega, by rw [hs]; omega⟩
  clear HCS ho3 ho3' ho4 hb4 hb3 hB3 hB4 hr3
  go_wp2
  go_ret2
  exact ⟨w4.heap.size, rfl, HF.out _ rfl⟩
end Go.Proofs.YtnafalkcgghjgaaGreatDoor
