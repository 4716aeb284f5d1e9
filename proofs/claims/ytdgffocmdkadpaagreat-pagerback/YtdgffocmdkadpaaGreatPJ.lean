/- Walks over New and the statements' filled. A walk over the statements' filled. Walks over sets of pages; a page of noughts; a new head. -/
import Derived.Test.YtdgffocmdkadpaaGreatI
import Derived.Test.YtdgffocmdkadpaaGreatPI
import Derived.Test.YtdgffocmdkadpaaGreatShelf
import Derived.Laws.BitsAllLaws
namespace Go.Proofs.YtdgffocmdkadpaaGreat
open Go.RowKit Go.Shelf
/-- The blocks that were made since. -/
def fresh (w w' : World) : Nat → Prop := fun x => w.heap.size ≤ x ∧ x < w'.heap.size
/-- A sector of noughts. -/
def nought : ByteArray := strOf (List.replicate 256 0)
theorem nought_rep : (⟨(Lib.repeatL (⟨#[0]⟩ : ByteArray).data.toList 256).toArray⟩ : ByteArray) = nought := by
  have e : Lib.repeatL [(0 : UInt8)] 256 = List.replicate 256 0 := by decide +kernel
  show (⟨(Lib.repeatL [0] 256).toArray⟩ : ByteArray) = _
  rw [e]; rfl
set_option maxHeartbeats 400000 in
theorem new_bad (x : Int) (w : World) (h : x < 1 ∨ 2048 < x) : Calls Tryz.prog 39 #[.int .i64 x] w fun e w' => e = .returned (.tuple #[.pointer none, .int .i64 1]) ∧ w' = w := by
  by_cases h1 : x < 1
  · clear h
    go_enter Tryz.func39, Tryz.ntmps39
    go_wp2
    go_ret2
    exact ⟨rfl, rfl⟩
  · have h2 : 2048 < x := by omega
    clear h
    go_enter Tryz.func39, Tryz.ntmps39
    go_wp2
    go_ret2
    exact ⟨rfl, rfl⟩
theorem own_rowV (W : World) (g : Nat) (z : ByteArray) (n : Nat) (h : W.heap[g]? = some (.cells (rowV z n n) 9 (0, 0))) (hn : n ≤ 2048) : W.ownsRow 0 9 1 (.slice (some ⟨g, 0, none⟩) n n) n (strsV (List.replicate n z)) := by
  refine ⟨by simp [strsV], .inr ⟨g, n, rowV z n n, rfl, Nat.zero_le _, h, Nat.le_refl _, by unfold maxLen; omega, by rw [rowV_size z n n (Nat.le_refl _)]; omega, ?_⟩⟩
  simp [rowV, strsV]
set_option maxRecDepth 100000 in
set_option maxHeartbeats 1000000 in
theorem new_any (n : Nat) (w : World) (h1 : 1 ≤ n) (h2 : n ≤ 2048) :
    Calls Tryz.prog 39 #[.int .i64 (n : Int)] w fun e w' => ∃ g, e = .returned (.tuple #[.pointer (some ⟨g, 0, none⟩), .int .i64 0]) ∧ DiskIs w' (fresh w w') g (Dk.new n nought) ∧ Below w.heap.size w w' := by
  have k1 : ¬ (n : Int) < 1 := by omega
  have k2 : ¬ (2048 : Int) < (n : Int) := by omega
  have HR := Tryz.strings_Repeat ⟨#[0]⟩ 256 w (by omega) (by decide)
  rw [nought_rep] at HR
  generalize hz : nought = z at HR ⊢
  clear hz
  go_enter Tryz.func39, Tryz.ntmps39
  go_wp2_with fail
  refine HR.mono ?_
  rintro e w1 ⟨rfl, hb1⟩
  clear HR
  obtain ⟨b, hb⟩ : ∃ b, w1.heap.size = b := ⟨_, rfl⟩
  obtain ⟨W2, hW2⟩ : ∃ W2, w1.alloc (.cells #[.string z] 9) = W2 := ⟨_, rfl⟩
  have hB2 : Below w.heap.size w W2 := by rw [← hW2]; exact hb1.alloc hb1.size _
  have HRP := repeat_any b z n W2 h1 h2 (by rw [← hW2, ← hb, cell_of_row _ w1.heap.size _ _ _ _ (heap_alloc_new w1 _)]; rfl)
  obtain ⟨c, hc⟩ : ∃ c, W2.heap.size = c := ⟨_, rfl⟩
  rw [hc] at HRP
  go_wp2_with fail
  refine HRP.mono ?_
  rintro e w3 ⟨rfl, hr3, hb3⟩
  have ho3 := own_rowV w3 c z n hr3 h2
  have HCS := cloneS_any c n n (List.replicate n z) w3 ho3 (by omega)
  have hB3 : Below w.heap.size w w3 := hB2.trans (hb3.mono (by rw [← hc]; exact hB2.size))
  have hcl : c < w3.heap.size := lt_of_some hr3
  clear HRP
  go_wp2_with fail
  refine HCS.mono ?_
  rintro e w4 ⟨g2, k2', rfl, hg2, ho4, hb4⟩
  have ho3' : w4.ownsRow 0 9 1 (.slice (some ⟨c, 0, none⟩) n n) n (strsV (List.replicate n z)) := own_keep ho3 (fun x hx => by rw [ob_slice] at hx; cases hx; exact hb4.block c hcl)
  have hB4 : Below w.heap.size w w4 := hB3.trans (hb4.mono hB3.size)
  have hl2 := (ho4.lt g2 rfl).2
  have hwc : w.heap.size ≤ c := by rw [← hc]; exact hB2.size
  have HF : Hid (∀ W5, W5 = w4.alloc (.cells #[.slice (some ⟨c, 0, none⟩) n n, .slice (some ⟨g2, 0, none⟩) n k2', .slice none 0 0, .int .i64 0, .int .i64 0, .bool true] 122) → DiskIs W5 (fresh w W5) w4.heap.size (Dk.new n z) ∧ Below w.heap.size w W5) := by
    rintro W5 rfl
    have hs : (w4.alloc (.cells #[.slice (some ⟨c, 0, none⟩) n n, .slice (some ⟨g2, 0, none⟩) n k2', .slice none 0 0, .int .i64 0, .int .i64 0, .bool true] 122)).heap.size = w4.heap.size + 1 := by simp
    have hl : (Dk.new n z).kept.length = n := by simp [Dk.new]
    have h34 := hb4.size
    refine ⟨⟨c, n, g2, k2', none, 0, { ok := Dk.Ok.new n z h1 h2, c := ?_, k := ?_, s := ?_, q := World.ownsRow_nil _ _ _ _, kg := by omega, sg := by omega, ks := by omega, wg := (by intro x hx; cases hx), Sg := ?_, Sk := ?_, Ss := ?_, Sw := (by intro x hx; cases hx), bd := fun x hx => hx.2 }⟩, hB4.alloc hB4.size _⟩
    · rw [heap_alloc_new]
      unfold dcells
      rw [hl]
      rfl
    · rw [hl]; exact ho3'.alloc _
    · rw [hl]; exact ho4.alloc _
    · exact ⟨by have := hB4.size; omega, by rw [hs]; omega⟩
    · exact ⟨by omega, by rw [hs]; omega⟩
    · exact ⟨by have := hB3.size; omega, by rw [hs]; omega⟩
  clear HCS ho3 ho3' ho4 hb4 hb3 hB3 hB4 hr3
  go_wp2
  go_ret2
  exact ⟨w4.heap.size, rfl, HF.out _ rfl⟩
end Go.Proofs.YtdgffocmdkadpaaGreat
namespace Go.Proofs.YtdgffocmdkadpaaGreat
open Go.RowKit Go.Shelf
def fillN (L : Int) : Nat := if L = 0 then 1024 else if L < 0 ∨ 3000 < L then 1 else L.toNat
def fillS (L : Int) (f : Nat) : ByteArray := strOf (List.replicate (fillN L) (UInt8.ofNat f))
theorem fillN_le (L : Int) : fillN L ≤ 3000 ∧ 1 ≤ fillN L := by unfold fillN; split <;> (try split) <;> omega
theorem fillS_size (L : Int) (f : Nat) : (fillS L f).size = fillN L := by unfold fillS; rw [strOf_size]; simp
def u8r (f m n : Nat) : Array Value := (List.replicate m (Value.int .u8 (f : Int)) ++ List.replicate (n - m) (Value.int .u8 0)).toArray
theorem u8r_made (f n : Nat) : madeCells #[Value.int .u8 0] n = u8r f 0 n := by
  apply Array.ext
  · simp [madeCells, u8r]
  · intro i h1 h2
    simp [madeCells, u8r, Nat.mod_one]
theorem u8r_set (f m n : Nat) (h : m < n) : (u8r f m n).setIfInBounds m (.int .u8 (f : Int)) = u8r f (m + 1) n := by
  simp only [u8r, List.setIfInBounds_toArray]
  congr 1
  rw [List.set_append_right _ _ (by simp)]
  rw [List.length_replicate, Nat.sub_self, show n - m = (n - (m + 1)) + 1 by omega, List.replicate_succ (n := n - (m + 1)), List.set_cons_zero, List.replicate_succ', List.append_assoc]
  rfl
theorem conv_row (W : World) (g n : Nat) (l : List UInt8) (hl : l.length = n) (h : ∀ i, i < n → W.cell? ⟨g, 0 + i, none⟩ = some (.int .u8 (((l.getD i 0).toNat : Nat) : Int))) :
    (convert 22 9 (.slice (some ⟨g, 0, none⟩) n n)).run Tryz.prog W = .ok (.string (strOf l)) W := by
  rw [run_convert_bytes_arg (P := Tryz.prog) W 22 5 Tryz.underlying22 Tryz.underlying5 g 0 n n (l.map fun u => (u.toNat : Int)) (by simpa using hl) (fun i hi => by
    rw [h i hi]
    simp [List.getD, show i < l.length by omega]) 9 Tryz.underlying9]
  congr 3
  simp [strOfNums, List.map_map, Function.comp_def]
  rfl
end Go.Proofs.YtdgffocmdkadpaaGreat
namespace Go.Proofs.YtdgffocmdkadpaaGreat
open Go.RowKit Go.Shelf Pg
/-- Bytes as cells. -/
def u8L (l : List UInt8) : List Value := l.map fun b => .int .u8 ((b.toNat : Nat) : Int)
theorem u8L_len (l : List UInt8) : (u8L l).length = l.length := by simp [u8L]
theorem u8L_one (l : List UInt8) : ∀ v ∈ u8L l, v.oneCell' = true := by
  intro v hv
  simp only [u8L, List.mem_map] at hv
  obtain ⟨x, _, rfl⟩ := hv
  rfl
/-- A set of pages as cells. -/
def setL (u : List Bool) : List Value := u8L (mapL u)
def setA (u : List Bool) : Array Value := (setL u).toArray
theorem mapL_len (u : List Bool) : (mapL u).length = 16 := by simp [mapL]
theorem setL_len (u : List Bool) : (setL u).length = 16 := by rw [setL, u8L_len, mapL_len]
theorem setA_size (u : List Bool) : (setA u).size = 16 := by rw [setA, List.size_toArray, setL_len]
theorem setL_at (u : List Bool) (j : Nat) (hj : j < 16) : (setL u)[j]? = some (.int .u8 ((bitN u j : Nat) : Int)) := by
  unfold setL u8L mapL
  rw [List.getElem?_map, List.getElem?_map, List.getElem?_range hj]
  simp only [Option.map_some]
  rw [toNat_ofNat (bitN_lt u j)]
theorem setA_at (u : List Bool) (j : Nat) (hj : j < 16) : (setA u)[j]? = some (.int .u8 ((bitN u j : Nat) : Int)) := by
  rw [setA, List.getElem?_toArray]; exact setL_at u j hj
theorem setL_set (u : List Bool) (i : Nat) (b : Bool) (hi : i < u.length) (h8 : i < 128) : setL (u.set i b) = (setL u).set (i / 8) (.int .u8 ((bitN (u.set i b) (i / 8) : Nat) : Int)) := by
  apply List.ext_getElem?
  intro j
  rw [List.getElem?_set]
  by_cases hj : j < 16
  · rw [setL_at _ j hj]
    by_cases e : i / 8 = j
    · subst e
      rw [if_pos rfl, setL_len, if_pos hj]
    · rw [if_neg e, setL_at _ j hj, bitN_other u i j b hi (fun x => e x.symm)]
  · rw [List.getElem?_eq_none (by rw [setL_len]; omega), if_neg (by omega), List.getElem?_eq_none (by rw [setL_len]; omega)]
theorem info_set (u : List Bool) : (Tryz.prog.info? 98).map (·.size) = some (setA u).size := by rw [setA_size]; kernel_rfl
set_option maxRecDepth 100000 in
set_option maxHeartbeats 1000000 in
theorem phas_any (u : List Bool) (i : Nat) (hi : i < 128) (w : World) : Calls Tryz.prog 81 #[.agg (setA u), .int .i64 (i : Int)] w fun e w' => e = .returned (.bool (u.getD i false)) ∧ Below w.heap.size w w' := by
  obtain ⟨W1, hW1⟩ : ∃ W1, w.alloc (.cells (setA u) 98) = W1 := ⟨_, rfl⟩
  have hr1 : W1.heap[w.heap.size]? = some (.cells (setA u) 98 (0, 0)) := by rw [← hW1]; exact heap_alloc_new w _
  obtain ⟨y, hy⟩ : ∃ y, bitN u (i / 8) = y := ⟨_, rfl⟩
  have hy8 : y < 256 := by rw [← hy]; exact bitN_lt u _
  have cm : W1.cell? ⟨w.heap.size, i / 8, none⟩ = some (.int .u8 (y : Int)) := by rw [cell_of_row W1 _ _ _ _ _ hr1, setA_at u _ (by omega), hy]
  have HB : Hid (Below w.heap.size w W1) := by rw [← hW1]; exact (Below.refl _ w).alloc (Nat.le_refl _) _
  obtain ⟨v, hv⟩ : ∃ v, y / 2 ^ (i % 8) = v := ⟨_, rfl⟩
  have hv8 : v < 256 := by rw [← hv]; exact Nat.lt_of_le_of_lt (Nat.div_le_self _ _) hy8
  have kv : (y : Int) / 2 ^ (i % 8) = (v : Int) := by rw [← hv]; simp
  have HT : Hid ((v % 2 = 1) = (u.getD i false = true)) := by
    show _ = _
    rw [← hv, ← hy]
    exact bitN_bit u i
  have hand0 : bits BinOp.and IntKind.u8 (v : Int) 1 = ((v % 2 : Nat) : Int) := by
    have := u8_and_nat v 1 hv8 (by omega)
    rw [Nat.and_one_is_mod] at this
    exact this
  clear hv hr1 hy
  rcases Nat.mod_two_eq_zero_or_one v with h2 | h2
  · have hand : bits BinOp.and IntKind.u8 (v : Int) 1 = 0 := by rw [hand0, h2]; rfl
    have HE : Hid (u.getD i false = false) := by
      have := HT.out
      rw [h2] at this
      cases h : u.getD i false
      · exact rfl
      · rw [h] at this
        exact absurd (this.mpr rfl) (by omega)
    clear hand0 h2 HT
    go_enter Tryz.func81, Tryz.ntmps81
    go_wp2
    go_ret
    exact ⟨by rw [HE.out]; rfl, HB.out⟩
  · have hand : bits BinOp.and IntKind.u8 (v : Int) 1 = 1 := by rw [hand0, h2]; rfl
    have HE : Hid (u.getD i false = true) := HT.out.mp h2
    clear hand0 h2 HT
    go_enter Tryz.func81, Tryz.ntmps81
    go_wp2
    go_ret
    exact ⟨by rw [HE.out]; rfl, HB.out⟩
/-- One cell of block b is written. -/
def Put1 (b i : Nat) (v : Value) (cs : Array Value) (t : TypeId) (w w' : World) : Prop := w'.heap[b]? = some (.cells (cs.setIfInBounds i v) t (0, 0)) ∧ Upd (fun x => x = b) w w' ∧ w'.heap.size = w.heap.size
theorem Put1.set {b i : Nat} {v : Value} {cs : Array Value} {t : TypeId} {w : World} (h : w.heap[b]? = some (.cells cs t (0, 0))) : Put1 b i v cs t w (w.setCell ⟨b, i, none⟩ v) :=
  ⟨heap_setCell_same w b i _ _ _ h, Upd.setCell (S := fun x => x = b) (Upd.refl _ w) (p := ⟨b, i, none⟩) (fun _ => rfl) v, by simp⟩
theorem Put1.drew {b i : Nat} {v : Value} {cs : Array Value} {t : TypeId} {w w' : World} (h : Put1 b i v cs t w w') : Put1 b i v cs t w w'.drew := ⟨h.1, h.2.1.drew, h.2.2⟩
set_option maxRecDepth 100000 in
set_option maxHeartbeats 2000000 in
theorem padd_any (u : List Bool) (b o i : Nat) (cs : Array Value) (t : TypeId) (w : World) (hi : i < u.length) (h8 : i < 128) (hr : w.heap[b]? = some (.cells cs t (0, 0))) (hc : ∀ j, j < 16 → cs[o + j]? = some (.int .u8 ((bitN u j : Nat) : Int))) :
    Calls Tryz.prog 76 #[.pointer (some ⟨b, o, none⟩), .int .i64 (i : Int)] w fun e w' => e = .returned (.tuple #[]) ∧ Put1 b (o + i / 8) (.int .u8 ((bitN (u.set i true) (i / 8) : Nat) : Int)) cs t w w' := by
  obtain ⟨y, hy⟩ : ∃ y, bitN u (i / 8) = y := ⟨_, rfl⟩
  have hy8 : y < 256 := by rw [← hy]; exact bitN_lt u _
  have cm : w.cell? ⟨b, o + i / 8, none⟩ = some (.int .u8 (y : Int)) := by rw [cell_of_row w _ _ _ _ _ hr, hc _ (by omega), hy]
  have fm := frozen_of_row w b (o + i / 8) _ _ hr
  obtain ⟨p, hp⟩ : ∃ p, 2 ^ (i % 8) = p := ⟨_, rfl⟩
  have hp8 : p < 256 := by
    have : 2 ^ (i % 8) < 2 ^ 8 := Nat.pow_lt_pow_right (by omega) (Nat.mod_lt _ (by omega))
    omega
  have kb : (2 : Int) ^ (i % 8) % 256 = (p : Int) := by
    have e : ((2 ^ (i % 8) : Nat) : Int) = (2 : Int) ^ (i % 8) := by simp
    rw [← e, hp]
    omega
  obtain ⟨z, hz⟩ : ∃ z, (y ||| p) = z := ⟨_, rfl⟩
  have hor : bits BinOp.or IntKind.u8 (y : Int) (p : Int) = (z : Int) := by rw [← hz]; exact u8_or_nat y p hy8 hp8
  have HZ : Hid (bitN (u.set i true) (i / 8) = z) := by
    show _ = _
    rw [bitN_add u i hi, hy, hp, hz]
  have HP : Hid (Put1 b (o + i / 8) (.int .u8 (z : Int)) cs t w (w.setCell ⟨b, o + i / 8, none⟩ (.int .u8 (z : Int)))) := Put1.set hr
  clear hr hc hz hp hy
  go_enter Tryz.func76, Tryz.ntmps76
  go_region
  refine bodyPost_end (v := .tuple #[]) ?_ rfl ⟨rfl, by rw [HZ.out]; exact HP.out.drew⟩
  simp [results, go_sem]
set_option maxRecDepth 100000 in
set_option maxHeartbeats 2000000 in
theorem pdrop_any (u : List Bool) (b o i : Nat) (cs : Array Value) (t : TypeId) (w : World) (hi : i < u.length) (h8 : i < 128) (hr : w.heap[b]? = some (.cells cs t (0, 0))) (hc : ∀ j, j < 16 → cs[o + j]? = some (.int .u8 ((bitN u j : Nat) : Int))) :
    Calls Tryz.prog 83 #[.pointer (some ⟨b, o, none⟩), .int .i64 (i : Int)] w fun e w' => e = .returned (.tuple #[]) ∧ Put1 b (o + i / 8) (.int .u8 ((bitN (u.set i false) (i / 8) : Nat) : Int)) cs t w w' := by
  obtain ⟨y, hy⟩ : ∃ y, bitN u (i / 8) = y := ⟨_, rfl⟩
  have hy8 : y < 256 := by rw [← hy]; exact bitN_lt u _
  have cm : w.cell? ⟨b, o + i / 8, none⟩ = some (.int .u8 (y : Int)) := by rw [cell_of_row w _ _ _ _ _ hr, hc _ (by omega), hy]
  have fm := frozen_of_row w b (o + i / 8) _ _ hr
  obtain ⟨p, hp⟩ : ∃ p, 2 ^ (i % 8) = p := ⟨_, rfl⟩
  have hp8 : p < 256 := by
    have : 2 ^ (i % 8) < 2 ^ 8 := Nat.pow_lt_pow_right (by omega) (Nat.mod_lt _ (by omega))
    omega
  have kb : (2 : Int) ^ (i % 8) % 256 = (p : Int) := by
    have e : ((2 ^ (i % 8) : Nat) : Int) = (2 : Int) ^ (i % 8) := by simp
    rw [← e, hp]
    omega
  obtain ⟨z, hz⟩ : ∃ z, (y &&& (255 - p)) = z := ⟨_, rfl⟩
  have hor : bits BinOp.andNot IntKind.u8 (y : Int) (p : Int) = (z : Int) := by rw [← hz]; exact u8_andNot_nat y p hy8 hp8
  have HZ : Hid (bitN (u.set i false) (i / 8) = z) := by
    show _ = _
    rw [bitN_drop u i hi, hy, hp, hz]
  have HP : Hid (Put1 b (o + i / 8) (.int .u8 (z : Int)) cs t w (w.setCell ⟨b, o + i / 8, none⟩ (.int .u8 (z : Int)))) := Put1.set hr
  clear hr hc hz hp hy
  go_enter Tryz.func83, Tryz.ntmps83
  go_region
  refine bodyPost_end (v := .tuple #[]) ?_ rfl ⟨rfl, by rw [HZ.out]; exact HP.out.drew⟩
  simp [results, go_sem]
theorem info8 : (Tryz.prog.info? 5).map (fun i => (i.zero, i.size, i.bytes)) = some (some (.int .u8 0), 1, 1) := by kernel_rfl
set_option maxRecDepth 100000 in
theorem make_zero (n : Nat) (hn : n ≤ 4096) (W : World) : (Instr.makeSlice 22 (.int .i64 (n : Int)) (.int .i64 (n : Int))).run Tryz.prog W = .ok (.slice (some ⟨W.heap.size, 0, none⟩) n n) (W.alloc (.cells (u8L (List.replicate n 0)).toArray 5)) := by
  have := run_make (P := Tryz.prog) W 22 5 _ (.int .u8 0) Tryz.underlying22 rfl rfl .i64 .i64 (n : Int) (n : Int) (by omega) (by omega) (by show (1 : Int) * _ ≤ _; omega) (by omega)
  rw [this, show ((n : Int)).toNat = n by omega, show Tryz.prog.types[5].size = 1 from rfl, Nat.mul_one]
  have e : madeCells (Value.int .u8 0).cells n = (u8L (List.replicate n 0)).toArray := by
    apply Array.ext
    · simp [madeCells, u8L, Value.cells]
    · intro i h1 h2
      simp [madeCells, u8L, Value.cells, Nat.mod_one]
  show Result.ok _ (W.alloc (.cells (madeCells (Value.int .u8 0).cells n) 5)) = _
  rw [e]
theorem conv_u8 (W : World) (g : Nat) (l : List UInt8) (t : TypeId) (fr : Nat × Nat) (h : W.heap[g]? = some (.cells (u8L l).toArray t fr)) (n : Nat) (hn : l.length = n) : (convert 22 9 (.slice (some ⟨g, 0, none⟩) n n)).run Tryz.prog W = .ok (.string (strOf l)) W := by
  refine conv_row W g n l hn (fun i hi => ?_)
  rw [cell_of_row W g _ _ _ _ h, Nat.zero_add, List.getElem?_toArray]
  unfold u8L
  rw [List.getElem?_map, List.getElem?_eq_getElem (by omega), List.getD_eq_getElem?_getD, List.getElem?_eq_getElem (by omega)]
  rfl
def zeroS : ByteArray := strOf zeroL
theorem zeroS_size : zeroS.size = 1024 := by unfold zeroS zeroL; rw [strOf_size, List.length_replicate]
set_option maxRecDepth 100000 in
set_option maxHeartbeats 1000000 in
theorem noughts_any (w : World) : Calls Tryz.prog 78 #[] w fun e w' => e = .returned (.string zeroS) ∧ Below w.heap.size w w' := by
  have hmk := make_zero 1024 (by omega) w
  obtain ⟨W1, hW1⟩ : ∃ W1, w.alloc (.cells (u8L (List.replicate 1024 0)).toArray 5) = W1 := ⟨_, rfl⟩
  have hr1 : W1.heap[w.heap.size]? = some (.cells (u8L (List.replicate 1024 0)).toArray 5 (0, 0)) := by rw [← hW1]; exact heap_alloc_new w _
  have hcv : (convert 22 9 (.slice (some ⟨w.heap.size, 0, none⟩) 1024 1024)).run Tryz.prog W1 = .ok (.string zeroS) W1 := conv_u8 W1 _ _ _ _ hr1 1024 (by simp)
  have HB : Hid (Below w.heap.size w W1) := by rw [← hW1]; exact (Below.refl _ w).alloc (Nat.le_refl _) _
  rw [hW1] at hmk
  have hmk : (Instr.makeSlice 22 (.int .i64 1024) (.int .i64 1024)).run Tryz.prog w = .ok (.slice (some ⟨w.heap.size, 0, none⟩) 1024 1024) W1 := hmk
  clear hr1 hW1
  go_enter Tryz.func78, Tryz.ntmps78
  go_wp2
  go_ret
  exact ⟨rfl, HB.out⟩
end Go.Proofs.YtdgffocmdkadpaaGreat
