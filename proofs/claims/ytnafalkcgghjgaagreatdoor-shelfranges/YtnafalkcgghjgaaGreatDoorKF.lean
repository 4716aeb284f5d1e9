/- A walk over a Journal's load, and its Read. A walk over the statements' filled. -/
import Derived.Test.YtnafalkcgghjgaaGreatDoorJU
import Derived.Test.YtnafalkcgghjgaaGreatDoorMA
namespace Go.Proofs.YtnafalkcgghjgaaGreatDoor
open Go.RowKit Go.Shelf
/-- The first i of a page's sectors. -/
def preAt (K : List ByteArray) (a : Nat) : Nat → ByteArray
  | 0 => ByteArray.empty
  | i + 1 => preAt K a i ++ at_ K (a + i)
theorem preAt_four (K : List ByteArray) (a : Nat) : preAt K a 4 = pageAt K a := by
  show ByteArray.empty ++ at_ K (a + 0) ++ at_ K (a + 1) ++ at_ K (a + 2) ++ at_ K (a + 3) = _
  rw [ByteArray.empty_append]
  rfl
theorem preAt_size (K : List ByteArray) (a i : Nat) (h : ∀ j, j < i → (at_ K (a + j)).size = 256) : (preAt K a i).size = 256 * i := by
  induction i with
  | zero => rfl
  | succ i ih =>
    show (preAt K a i ++ at_ K (a + i)).size = _
    rw [ByteArray.size_append, ih (fun j hj => h j (by omega)), h i (by omega)]
    omega
theorem strCells_app (a b : ByteArray) : Lib.strCells (a ++ b) = Lib.strCells a ++ Lib.strCells b := by
  simp [Lib.strCells]
set_option maxRecDepth 100000 in
set_option maxHeartbeats 1000000 in
theorem load_any {w : World} {S : Nat → Prop} {jb g n : Nat} {D : Dk} (h : DiskIs w S g D) (hj : Jat w jb g n) (a : Nat) (hu : D.up = true) (ha : a + 4 ≤ D.kept.length) (hsz : ∀ j, j < 4 → (at_ D.seen (a + j)).size = 256) :
    Calls Tryz.prog 79 #[.pointer (some ⟨jb, 0, none⟩), .int .i64 (a : Int)] w fun e w' => e = .returned (.tuple #[.string (pageAt D.seen a), .int .i64 0]) ∧ Below w.heap.size w w' := by
  have hk2 := h.ok.n2
  have HRD : Hid (∀ W i, Below w.heap.size w W → i < 4 → Calls Tryz.prog 77 #[.pointer (some ⟨g, 0, none⟩), .int .i64 ((a + i : Nat) : Int)] W fun e w' => e = .returned (.tuple #[.string (at_ D.seen (a + i)), .int .i64 0]) ∧ w' = W) := fun W i hW hi => read_any (h.below hW) (a + i) hu (by omega)
  have HJ : Hid (∀ W, Below w.heap.size w W → W.cell? ⟨jb, 0, none⟩ = some (.pointer (some ⟨g, 0, none⟩))) := fun W hW => (hj.below hW).cells.1
  have HSZ : Hid (∀ j, j < 4 → (at_ D.seen (a + j)).size = 256) := hsz
  have HI : Hid (Lib.IsBuilder 141 5 w.heap.size w.heap.size (Lib.strCells (preAt D.seen a 0)) (w.alloc (.cells #[.pointer none, .slice none 0 0] 141)) ∧ Below w.heap.size w (w.alloc (.cells #[.pointer none, .slice none 0 0] 141))) :=
    ⟨Lib.fresh_isBuilder 141 5 w, (Below.refl _ w).alloc (Nat.le_refl _) _⟩
  clear h hj hsz
  go_enter Tryz.func79, Tryz.ntmps79
  go_wp2
  go_loopw [10] (fun v wr => ∃ i : Nat, i ≤ 4 ∧ v = .int .i64 i ∧ Lib.IsBuilder 141 5 w.heap.size w.heap.size (Lib.strCells (preAt D.seen a i)) wr ∧ Below w.heap.size w wr) (fun v _ => 4 - (intOf v).toNat)
  case atStart => exact ⟨0, by omega, rfl, HI.out⟩
  case round =>
    clear HI
    obtain ⟨i, hi, rfl, hbu, hbel⟩ := hrel
    have HB : Hid (Lib.IsBuilder 141 5 w.heap.size w.heap.size (Lib.strCells (preAt D.seen a i)) wr) := hbu
    have HL : Hid (Below w.heap.size w wr) := hbel
    have cj := HJ.out wr hbel
    clear hbu hbel
    by_cases hlt : i < 4
    · have kk : (i : Int) < 4 := by omega
      have HR := HRD.out wr i HL.out hlt
      have kai : ((a + i : Nat) : Int) = (a : Int) + (i : Int) := by omega
      rw [kai] at HR
      have hs1 := HSZ.out i hlt
      obtain ⟨T, hT⟩ : ∃ T, at_ D.seen (a + i) = T := ⟨_, rfl⟩
      have HP : Hid (preAt D.seen a (i + 1) = preAt D.seen a i ++ T) := by show preAt D.seen a i ++ at_ D.seen (a + i) = _; rw [hT]
      rw [hT] at HR hs1
      have hps := preAt_size D.seen a i (fun j hj => HSZ.out j (by omega))
      have hlen : (Lib.strCells (preAt D.seen a i)).length + T.size ≤ 140737488355328 := by rw [Lib.strCells_length, hps, hs1]; omega
      have HWS := wstr_any w.heap.size w.heap.size _ T wr HB.out hlen HL.out.size
      clear hT hlen hps
      go_wp2_with fail
      refine HR.mono ?_
      rintro e V1 ⟨rfl, hV⟩
      subst V1
      clear HR
      go_wp2_with fail
      refine HWS.mono ?_
      rintro e V2 ⟨rfl, hb2, hl2⟩
      have HN : Hid (Lib.IsBuilder 141 5 w.heap.size w.heap.size (Lib.strCells (preAt D.seen a (i + 1))) V2 ∧ Below w.heap.size w V2) := by
        rw [HP.out, strCells_app]
        exact ⟨.inr hb2, HL.out.trans hl2⟩
      clear HWS hb2 hl2 HB HL HP
      go_wp2
      exact ⟨⟨i + 1, by omega, by go_num, HN.out⟩, by simp [intOf]; omega⟩
    · obtain rfl : i = 4 := by omega
      have kk : ¬ (4 : Int) < 4 := by omega
      have hps := preAt_size D.seen a 4 HSZ.out
      have HS := Tryz.Builder_String w.heap.size w.heap.size (preAt D.seen a 4).data.toList wr HB.out (fun e => by
        have : (preAt D.seen a 4).data.toList.length = 1024 := hps
        rw [e] at this
        simp at this)
      have HE : Hid ((⟨(preAt D.seen a 4).data.toList.toArray⟩ : ByteArray) = pageAt D.seen a) := by
        show _ = _
        rw [← preAt_four]
      obtain ⟨T, hT⟩ : ∃ T, (⟨(preAt D.seen a 4).data.toList.toArray⟩ : ByteArray) = T := ⟨_, rfl⟩
      rw [hT] at HS HE
      clear hT hps
      go_wp2_with fail
      refine HS.mono ?_
      rintro e V2 ⟨rfl, hl2⟩
      have HN : Hid (Below w.heap.size w V2) := HL.out.trans hl2
      clear HS hl2 HB HL
      go_wp2
      go_ret2
      exact ⟨by rw [HE.out]; rfl, HN.out⟩
set_option maxRecDepth 100000 in
set_option maxHeartbeats 1000000 in
theorem load_down {w : World} {S : Nat → Prop} {jb g n : Nat} {D : Dk} (h : DiskIs w S g D) (hj : Jat w jb g n) (a : Nat) (hu : D.up = false) (ha : a ≤ 4096) :
    Calls Tryz.prog 79 #[.pointer (some ⟨jb, 0, none⟩), .int .i64 (a : Int)] w fun e w' => e = .returned (.tuple #[.string ⟨#[]⟩, .int .i64 10]) ∧ Below w.heap.size w w' := by
  have hb0 : Below w.heap.size w (w.alloc (.cells #[.pointer none, .slice none 0 0] 141)) := (Below.refl _ w).alloc (Nat.le_refl _) _
  have HRD := read_bad (h.below hb0) (a : Int) (by unfold Dk.reach; rw [hu]; simp)
  have hre : D.reach (a : Int) = 10 := by unfold Dk.reach; rw [hu]; rfl
  rw [hre] at HRD
  have cj := (hj.below hb0).cells.1
  obtain ⟨W1, hW1⟩ : ∃ W1, w.alloc (.cells #[.pointer none, .slice none 0 0] 141) = W1 := ⟨_, rfl⟩
  rw [hW1] at HRD cj hb0
  have HB0 : Hid (Below w.heap.size w W1) := hb0
  clear h hj hb0
  go_enter Tryz.func79, Tryz.ntmps79
  go_wp2
  try rw [hW1]
  go_loopw [10] (fun v wr => v = .int .i64 0 ∧ wr = W1) (fun _ _ => 0)
  case atStart => exact ⟨rfl, rfl⟩
  case round =>
    obtain ⟨rfl, hwr⟩ := hrel
    subst wr
    go_wp2_with fail
    refine HRD.mono ?_
    rintro e V1 ⟨rfl, hV⟩
    subst V1
    go_wp2
    go_ret2
    exact ⟨rfl, HB0.out⟩
theorem read_none (p : Int) (w : World) : Calls Tryz.prog 71 #[.pointer none, .int .i64 p] w fun e w' => e = .returned (.tuple #[.string ⟨#[]⟩, .int .i64 1]) ∧ w' = w := by
  go_enter Tryz.func71, Tryz.ntmps71
  go_wp2
  go_ret2
  exact ⟨rfl, rfl⟩
theorem jread_out {w : World} {jb g n : Nat} (hj : Jat w jb g n) (p : Int) (hp : ¬ (0 ≤ p ∧ p < (n : Int))) : Calls Tryz.prog 71 #[.pointer (some ⟨jb, 0, none⟩), .int .i64 p] w fun e w' => e = .returned (.tuple #[.string ⟨#[]⟩, .int .i64 9]) ∧ w' = w := by
  have HH := has_any hj p
  rw [decide_eq_false hp] at HH
  clear hj hp
  go_enter Tryz.func71, Tryz.ntmps71
  go_wp2_with fail
  refine HH.mono ?_
  rintro e V1 ⟨rfl, hV⟩
  subst V1
  go_wp2
  go_ret2
  exact ⟨rfl, rfl⟩
set_option maxHeartbeats 1000000 in
theorem jread_any {w : World} {S : Nat → Prop} {jb g n : Nat} {D : Dk} (h : DiskIs w S g D) (hj : Jat w jb g n) (hn : n ≤ 128) (hkn : 8 * n + 1 ≤ D.kept.length) (hu : D.up = true) (hsz : ∀ s ∈ D.seen, s.size = 256) (p : Nat) (hp : p < n) :
    Calls Tryz.prog 71 #[.pointer (some ⟨jb, 0, none⟩), .int .i64 (p : Int)] w fun e w' => e = .returned (.tuple #[.string (pageAt D.seen (1 + 4 * n + 4 * p)), .int .i64 0]) ∧ Below w.heap.size w w' := by
  have HH := has_any hj (p : Int)
  rw [decide_eq_true (by omega)] at HH
  have HP := pagesAt_any hj hn
  have HL := load_any h hj (1 + 4 * n + 4 * p) hu (by omega) (fun j hj => hsz _ (by
    unfold at_
    rw [List.getD_eq_getElem?_getD, List.getElem?_eq_getElem (by rw [seen_len]; omega)]
    exact List.getElem_mem _))
  have kf : ((1 + 4 * n + 4 * p : Nat) : Int) = ((1 + 4 * n : Nat) : Int) + 4 * (p : Int) := by omega
  rw [kf] at HL
  obtain ⟨q, hq⟩ : ∃ q : Nat, 1 + 4 * n = q := ⟨_, rfl⟩
  have hq2 : q ≤ 1000 := by omega
  rw [hq] at HL HP
  rw [hq]
  clear h hj hsz
  go_enter Tryz.func71, Tryz.ntmps71
  go_wp2_with (go_at_call 80; refine HH.mono ?_; rintro e V1 ⟨rfl, hV⟩; subst V1)
  refine HP.mono ?_
  rintro e V1 ⟨rfl, hV⟩
  subst V1
  go_wp2_with fail
  refine HL.mono ?_
  rintro e V1 ⟨rfl, hb⟩
  go_wp2
  go_ret2
  exact ⟨rfl, hb⟩
set_option maxHeartbeats 1000000 in
theorem jread_down {w : World} {S : Nat → Prop} {jb g n : Nat} {D : Dk} (h : DiskIs w S g D) (hj : Jat w jb g n) (hn : n ≤ 128) (hu : D.up = false) (p : Nat) (hp : p < n) :
    Calls Tryz.prog 71 #[.pointer (some ⟨jb, 0, none⟩), .int .i64 (p : Int)] w fun e w' => e = .returned (.tuple #[.string ⟨#[]⟩, .int .i64 10]) ∧ Below w.heap.size w w' := by
  have HH := has_any hj (p : Int)
  rw [decide_eq_true (by omega)] at HH
  have HP := pagesAt_any hj hn
  have HL := load_down h hj (1 + 4 * n + 4 * p) hu (by omega)
  have kf : ((1 + 4 * n + 4 * p : Nat) : Int) = ((1 + 4 * n : Nat) : Int) + 4 * (p : Int) := by omega
  rw [kf] at HL
  obtain ⟨q, hq⟩ : ∃ q : Nat, 1 + 4 * n = q := ⟨_, rfl⟩
  have hq2 : q ≤ 1000 := by omega
  rw [hq] at HL HP
  clear h hj
  go_enter Tryz.func71, Tryz.ntmps71
  go_wp2_with (go_at_call 80; refine HH.mono ?_; rintro e V1 ⟨rfl, hV⟩; subst V1)
  refine HP.mono ?_
  rintro e V1 ⟨rfl, hV⟩
  subst V1
  go_wp2_with fail
  refine HL.mono ?_
  rintro e V1 ⟨rfl, hb⟩
  go_wp2
  go_ret2
  exact ⟨rfl, hb⟩
end Go.Proofs.YtnafalkcgghjgaaGreatDoor
namespace Go.Proofs.YtnafalkcgghjgaaGreatDoor
open Go.RowKit Go.Shelf
def fillN (L : Int) : Nat := if L = 0 then 1024 else if L < 0 ∨ 3000 < L then 1 else L.toNat
def fillS (L : Int) (f : Nat) : ByteArray := strOf (List.replicate (fillN L) (UInt8.ofNat f))
theorem fillN_le (L : Int) : fillN L ≤ 3000 ∧ 1 ≤ fillN L := by unfold fillN; split <;> (try split) <;> omega
theorem fillS_size (L : Int) (f : Nat) : (fillS L f).size = fillN L := by unfold fillS; rw [strOf_size]; simp
def u8r (f m n : Nat) : Array Value := (List.replicate m (Value.int .u8 (f : Int)) ++ List.replicate (n - m) (Value.int .u8 0)).toArray
theorem u8r_made (f n : Nat) : madeCells #[Value.int .u8 0] n = u8r f 0 n := by
  apply Array.ext
  · simp [madeCells, u8r]
  · intro i h1 h2
    simp [madeCells, u8r, Nat.mod_one]
theorem u8r_set (f m n : Nat) (h : m < n) : (u8r f m n).setIfInBounds m (.int .u8 (f : Int)) = u8r f (m + 1) n := by
  simp only [u8r, List.setIfInBounds_toArray]
  congr 1
  rw [List.set_append_right _ _ (by simp)]
  rw [List.length_replicate, Nat.sub_self, show n - m = (n - (m + 1)) + 1 by omega, List.replicate_succ (n := n - (m + 1)), List.set_cons_zero, List.replicate_succ', List.append_assoc]
  rfl
theorem conv_row (W : World) (g n : Nat) (l : List UInt8) (hl : l.length = n) (h : ∀ i, i < n → W.cell? ⟨g, 0 + i, none⟩ = some (.int .u8 (((l.getD i 0).toNat : Nat) : Int))) :
    (convert 67 9 (.slice (some ⟨g, 0, none⟩) n n)).run Tryz.prog W = .ok (.string (strOf l)) W := by
  rw [run_convert_bytes_arg (P := Tryz.prog) W 67 5 Tryz.underlying67 Tryz.underlying5 g 0 n n (l.map fun u => (u.toNat : Int)) (by simpa using hl) (fun i hi => by
    rw [h i hi]
    simp [List.getD, show i < l.length by omega]) 9 Tryz.underlying9]
  congr 3
  simp [strOfNums, List.map_map, Function.comp_def]
  rfl
end Go.Proofs.YtnafalkcgghjgaaGreatDoor
