/- A walk over a leaf's text. -/
import Derived.Test.YtnafalkcgghjgaaDoorSE
import Derived.Test.YtnafalkcgghjgaaDoorJP
namespace Go.Proofs.YtnafalkcgghjgaaDoor
open Go.RowKit Go.Shelf
def bV (L : List UInt8) : List Value := L.map fun b => Value.int .u8 (b.toNat : Int)
theorem bV_app (A B : List UInt8) : bV (A ++ B) = bV A ++ bV B := by simp [bV]
theorem bV_len (A : List UInt8) : (bV A).length = A.length := by simp [bV]
theorem bV_one (A : List UInt8) : ∀ u ∈ bV A, u.oneCell' = true := by
  intro u hu
  simp only [bV, List.mem_map] at hu
  obtain ⟨x, _, rfl⟩ := hu
  rfl
/-- A row of 1024 bytes, the first of which are laid. -/
def brow (L : List UInt8) : Array Value := (bV L ++ List.replicate (1024 - L.length) (Value.int .u8 0)).toArray
def Bt (w : World) (g : Nat) (L : List UInt8) : Prop := w.heap[g]? = some (.cells (brow L) 5 (0, 0))
theorem setCells_row {b : Nat} {t : TypeId} : ∀ (vs : List Value) (o : Nat) (w : World) (A B : List Value), A.length = o → vs.length ≤ B.length → w.heap[b]? = some (.cells (A ++ B).toArray t (0, 0)) → (w.setCells b o vs).heap[b]? = some (.cells (A ++ vs ++ B.drop vs.length).toArray t (0, 0))
  | [], o, w, A, B, _, _, h => by simpa [World.setCells] using h
  | v :: vs, o, w, A, B, hA, hB, h => by
    cases B with
    | nil => simp at hB
    | cons x B =>
      have h1 : (w.setCell ⟨b, o, none⟩ v).heap[b]? = some (.cells (A ++ [v] ++ B).toArray t (0, 0)) := by
        rw [heap_setCell_same w b o _ _ _ h]
        congr 2
        rw [List.setIfInBounds_toArray, List.set_append_right _ _ (by omega), hA]
        simp
      have := setCells_row vs (o + 1) (w.setCell ⟨b, o, none⟩ v) (A ++ [v]) B (by simp [hA]) (by simpa using hB) h1
      rw [World.setCells, this]
      simp
theorem setCells_other {b : Nat} : ∀ (vs : List Value) (o : Nat) (w : World) (k : Nat), k ≠ b → (w.setCells b o vs).heap[k]? = w.heap[k]?
  | [], _, _, _, _ => rfl
  | v :: vs, o, w, k, hk => by rw [World.setCells, setCells_other vs _ _ k hk, Below.heap_setCell _ _ _ _ hk]
theorem setCells_below {b B : Nat} {a : World} (hb : B ≤ b) : ∀ (vs : List Value) (o : Nat) (w : World), Below B a w → Below B a (w.setCells b o vs)
  | [], _, _, h => h
  | v :: vs, o, _, h => setCells_below hb vs (o + 1) _ (h.setCell hb v)
theorem Bt.cell {w : World} {g : Nat} {L : List UInt8} (h : Bt w g L) (hl : L.length ≤ 1024) (j : Nat) (hj : j < 1024) : (w.cell? ⟨g, j, none⟩).isSome = true ∧ w.frozen? ⟨g, j, none⟩ = false := by
  refine ⟨?_, frozen_of_row w g j _ _ h⟩
  have hj' : j < (brow L).size := by simp [brow, bV_len]; omega
  rw [cell_of_row w g _ _ _ _ h, Array.getElem?_eq_getElem hj']
  rfl
theorem infoU8 : (Tryd.prog.info? 5).map (fun i => (i.zero, i.size, i.bytes)) = some (some (.int .u8 0), 1, 1) := by kernel_rfl
theorem Bt.put {w : World} {g : Nat} {L M : List UInt8} (h : Bt w g L) (hl : L.length + M.length ≤ 1024) : Bt (w.setCells g L.length (bV M)) g (L ++ M) := by
  unfold Bt brow at *
  have h2 := setCells_row (bV M) L.length w (bV L) _ (bV_len L) (by simp [bV_len]; omega) h
  rw [h2, bV_app, bV_len, List.drop_replicate, show 1024 - L.length - M.length = 1024 - (L ++ M).length by rw [List.length_append]; omega]
/-- Bytes are added in place. -/
theorem app_bytes {w : World} {g : Nat} {L M : List UInt8} (h : Bt w g L) {n : Nat} (hn : L.length = n) (hl : L.length + M.length ≤ 1024) {tx : TypeId} {x : Value} {m : Nat} (hm : M.length = m) (hs : Src Tryd.prog 1 tx x m (bV M) w) :
    ∃ w', (∀ ty, (Builtin.append_ #[61, tx] ty #[.slice (some ⟨g, 0, none⟩) n 1024, x]).run Tryd.prog w = .ok (.slice (some ⟨g, 0, none⟩) (n + m) 1024) w') ∧ Bt w' g (L ++ M) ∧ (∀ k, k ≠ g → w'.heap[k]? = w.heap[k]?) ∧ (∀ B a, B ≤ g → Below B a w → Below B a w') := by
  obtain ⟨i, hi, hz, hsz, hb⟩ := info_of infoU8
  subst hn
  refine ⟨w.setCells g L.length (bV M), fun ty => ?_, h.put hl, fun k hk => setCells_other _ _ _ _ hk, fun B a hB hb => setCells_below hB _ _ _ hb⟩
  have := run_append_room_src (P := Tryd.prog) w 61 tx ty 5 i Tryd.underlying61 hi g 0 L.length 1024 x m (bV M) (by rw [hsz]; exact hs) (by omega) (fun j hj => by
    rw [hsz, Nat.mul_one, Nat.zero_add]
    rw [bV_len] at hj
    exact (h.cell (by omega) _ (by omega)).1) (fun j hj => by
    rw [hsz, Nat.mul_one, Nat.zero_add]
    rw [bV_len] at hj
    exact (h.cell (by omega) _ (by omega)).2)
  rw [hsz, Nat.mul_one, Nat.zero_add] at this
  exact this
theorem app_zeros {w : World} {g : Nat} {L : List UInt8} (h : Bt w g L) {n k : Nat} (hn : L.length = n) (hk : n + k = 1024) :
    ∃ w', (∀ ty, (Builtin.append_ #[61, 3] ty #[.slice (some ⟨g, 0, none⟩) n 1024, .int .i64 (k : Int)]).run Tryd.prog w = .ok (.slice (some ⟨g, 0, none⟩) 1024 1024) w') ∧ Bt w' g (L ++ List.replicate k 0) ∧ (∀ B a, B ≤ g → Below B a w → Below B a w') := by
  obtain ⟨i, hi, hz, hsz, hb⟩ := info_of infoU8
  subst hn
  have hbv : bV (List.replicate k 0) = List.replicate k (Value.int .u8 0) := by simp [bV]
  refine ⟨w.setCells g L.length (bV (List.replicate k 0)), fun ty => ?_, h.put (by simp; omega), fun B a hB hb => setCells_below hB _ _ _ hb⟩
  have hst := run_storeCells_cells (P := Tryd.prog) g L.length (bV (List.replicate k 0)) 0 w (fun j hj => by
    rw [bV_len, List.length_replicate] at hj
    exact (h.cell (by omega) _ (by omega)).1) (fun j hj => by
    rw [bV_len, List.length_replicate] at hj
    exact (h.cell (by omega) _ (by omega)).2) (bV_one _)
  rw [Nat.add_zero] at hst
  have hw : IntKind.i64.wrap (k : Int) = (k : Int) := by rw [IntKind.wrap_i64]; omega
  have h0 : ¬ (k : Int) < 0 := by omega
  have h1 : ¬ (281474976710656 : Int) < (k : Int) := by omega
  have hzc : (Builtin.zeroCells #[Value.int .u8 0] k).toList = List.replicate k (Value.int .u8 0) := by
    apply List.ext_getElem?
    intro j
    simp [Builtin.zeroCells, List.getElem?_replicate]
    split <;> simp_all [Nat.mod_one]
  by_cases hk0 : k = 0
  · subst hk0
    have : L.length = 1024 := by omega
    simp [Builtin.append_, run_underlying Tryd.underlying61, run_underlying Tryd.underlying3, sizeOf, typeInfo, hi, hb, this, storeCells, bV, World.setCells, asInt, asIntOf, IntKind.wrap_i64]
  · have had : (⟨g, 0, none⟩ : Addr).add L.length = ⟨g, L.length, none⟩ := by rw [add_at]; simp
    rw [hbv] at hst
    simp [Builtin.append_, run_underlying Tryd.underlying61, run_underlying Tryd.underlying3, sizeOf, typeInfo, zeroValue, hi, hz, hsz, hb, asInt, asIntOf, hw, hk0, hk, hbv, h0, h1]
    rw [had, show (Value.int IntKind.u8 0).cells = #[Value.int .u8 0] from rfl, hzc, hst]
    rfl
theorem u8_wrap (n : Nat) : IntKind.u8.wrap (n : Int) = ((n % 256 : Nat) : Int) := by rw [IntKind.wrap_u8]; omega
theorem byte_rw {w : World} {c : Nat} {L : List UInt8} (h : w.heap[c]? = some (.cells (bV L).toArray 5 (0, 0))) : Src Tryd.prog 1 61 (.slice (some ⟨c, 0, none⟩) L.length L.length) L.length (bV L) w := by
  refine Src.ofSlice w Tryd.underlying61 ⟨c, 0, none⟩ _ _ (bV L) (by rw [bV_len]; simp) (fun j u hu => ?_) (bV_one L)
  rw [add_at, Nat.zero_add, cell_of_row _ c _ _ _ _ h]
  simpa using hu
theorem str_src {w : World} (s : ByteArray) : Src Tryd.prog 1 9 (.string s) s.size (bV s.data.toList) w := Src.ofString w Tryd.underlying9 s
theorem made_zeros (n : Nat) : madeCells #[Value.int .u8 0] n = (List.replicate n (Value.int .u8 0)).toArray := by
  apply Array.ext
  · simp [madeCells]
  · intro i h1 h2
    simp [madeCells, Nat.mod_one]
theorem made_zero : madeCells #[Value.int .u8 0] 1024 = brow [] := made_zeros 1024
set_option maxRecDepth 100000 in
theorem made_row (V : World) : (Instr.makeSlice 61 (.int .i64 0) (.int .i64 1024)).run Tryd.prog V = .ok (.slice (some ⟨V.heap.size, 0, none⟩) 0 1024) (V.alloc (.cells (brow []) 5)) := by
  have := run_make (P := Tryd.prog) V 61 5 _ (.int .u8 0) Tryd.underlying61 rfl rfl .i64 .i64 0 1024 (by omega) (by omega) (by show (1 : Int) * _ ≤ _; omega) (by omega)
  rw [this, ← made_zero]
  rfl
end Go.Proofs.YtnafalkcgghjgaaDoor
