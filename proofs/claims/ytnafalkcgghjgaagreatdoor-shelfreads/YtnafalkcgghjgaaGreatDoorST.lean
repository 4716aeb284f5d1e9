/- A walk over a leaf's text. -/
import Derived.Test.YtnafalkcgghjgaaGreatDoorSE
import Derived.Test.YtnafalkcgghjgaaGreatDoorJP
namespace Go.Proofs.YtnafalkcgghjgaaGreatDoor
open Go.RowKit Go.Shelf
def bV (L : List UInt8) : List Value := L.map fun b => Value.int .u8 (b.toNat : Int)
theorem bV_app (A B : List UInt8) : bV (A ++ B) = bV A ++ bV B := by simp [bV]
theorem bV_len (A : List UInt8) : (bV A).length = A.length := by simp [bV]
theorem bV_one (A : List UInt8) : ∀ u ∈ bV A, u.oneCell' = true := by
  intro u hu
  simp only [bV, List.mem_map] at hu
  obtain ⟨x, _, rfl⟩ := hu
  rfl
/-- A row of 1024 bytes, the first of which are laid. -/
def brow (L : List UInt8) : Array Value := (bV L ++ List.replicate (1024 - L.length) (Value.int .u8 0)).toArray
def Bt (w : World) (g : Nat) (L : List UInt8) : Prop := w.heap[g]? = some (.cells (brow L) 5 (0, 0))
theorem setCells_row {b : Nat} {t : TypeId} : ∀ (vs : List Value) (o : Nat) (w : World) (A B : List Value), A.length = o → vs.length ≤ B.length → w.heap[b]? = some (.cells (A ++ B).toArray t (0, 0)) → (w.setCells b o vs).heap[b]? = some (.cells (A ++ vs ++ B.drop vs.length).toArray t (0, 0))
  | [], o, w, A, B, _, _, h => by simpa [World.setCells] using h
  | v :: vs, o, w, A, B, hA, hB, h => by
    cases B with
    | nil => simp at hB
    | cons x B =>
      have h1 : (w.setCell ⟨b, o, none⟩ v).heap[b]? = some (.cells (A ++ [v] ++ B).toArray t (0, 0)) := by
        rw [heap_setCell_same w b o _ _ _ h]
        congr 2
        rw [List.setIfInBounds_toArray, List.set_append_right _ _ (by omega), hA]
        simp
      have := setCells_row vs (o + 1) (w.setCell ⟨b, o, none⟩ v) (A ++ [v]) B (by simp [hA]) (by simpa using hB) h1
      rw [World.setCells, this]
      simp
theorem setCells_other {b : Nat} : ∀ (vs : List Value) (o : Nat) (w : World) (k : Nat), k ≠ b → (w.setCells b o vs).heap[k]? = w.heap[k]?
  | [], _, _, _, _ => rfl
  | v :: vs, o, w, k, hk => by rw [World.setCells, setCells_other vs _ _ k hk, Below.heap_setCell _ _ _ _ hk]
theorem setCells_below {b B : Nat} {a : World} (hb : B ≤ b) : ∀ (vs : List Value) (o : Nat) (w : World), Below B a w → Below B a (w.setCells b o vs)
  | [], _, _, h => h
  | v :: vs, o, _, h => setCells_below hb vs (o + 1) _ (h.setCell hb v)
theorem Bt.cell {w : World} {g : Nat} {L : List UInt8} (h : Bt w g L) (hl : L.length ≤ 1024) (j : Nat) (hj : j < 1024) : (w.cell? ⟨g, j, none⟩).isSome = true ∧ w.frozen? ⟨g, j, none⟩ = false := by
  refine ⟨?_, frozen_of_row w g j _ _ h⟩
  have hj' : j < (brow L).size := by simp [brow, bV_len]; omega
  rw [cell_of_row w g _ _ _ _ h, Array.getElem?_eq_getElem hj']
  rfl
theorem infoU8 : (Tryz.prog.info? 5).map (fun i => (i.zero, i.size, i.bytes)) = some (some (.int .u8 0), 1, 1) := by kernel_rfl
theorem Bt.put {w : World} {g : Nat} {L M : List UInt8} (h : Bt w g L) (hl : L.length + M.length ≤ 1024) : Bt (w.setCells g L.length (bV M)) g (L ++ M) := by
  unfold Bt brow at *
  have h2 := setCells_row (bV M) L.length w (bV L) _ (bV_len L) (by simp [bV_len]; omega) h
  rw [h2, bV_app, bV_len, List.drop_replicate, show 1024 - L.length - M.length = 1024 - (L ++ M).length by rw [List.length_append]; omega]
/-- Bytes are added in place. -/
theorem app_bytes {w : World} {g : Nat} {L M : List UInt8} (h : Bt w g L) {n : Nat} (hn : L.length = n) (hl : L.length + M.length ≤ 1024) {tx : TypeId} {x : Value} {m : Nat} (hm : M.length = m) (hs : Src Tryz.prog 1 tx x m (bV M) w) :
    ∃ w', (∀ ty, (Builtin.append_ #[67, tx] ty #[.slice (some ⟨g, 0, none⟩) n 1024, x]).run Tryz.prog w = .ok (.slice (some ⟨g, 0, none⟩) (n + m) 1024) w') ∧ Bt w' g (L ++ M) ∧ (∀ k, k ≠ g → w'.heap[k]? = w.heap[k]?) ∧ (∀ B a, B ≤ g → Below B a w → Below B a w') := by
  obtain ⟨i, hi, hz, hsz, hb⟩ := info_of infoU8
  subst hn
  refine ⟨w.setCells g L.length (bV M), fun ty => ?_, h.put hl, fun k hk => setCells_other _ _ _ _ hk, fun B a hB hb => setCells_below hB _ _ _ hb⟩
  have := run_append_room_src (P := Tryz.prog) w 67 tx ty 5 i Tryz.underlying67 hi g 0 L.length 1024 x m (bV M) (by rw [hsz]; exact hs) (by omega) (fun j hj => by
    rw [hsz, Nat.mul_one, Nat.zero_add]
    rw [bV_len] at hj
    exact (h.cell (by omega) _ (by omega)).1) (fun j hj => by
    rw [hsz, Nat.mul_one, Nat.zero_add]
    rw [bV_len] at hj
    exact (h.cell (by omega) _ (by omega)).2)
  rw [hsz, Nat.mul_one, Nat.zero_add] at this
  exact this
theorem app_zeros {w : World} {g : Nat} {L : List UInt8} (h : Bt w g L) {n k : Nat} (hn : L.length = n) (hk : n + k = 1024) :
    ∃ w', (∀ ty, (Builtin.append_ #[67, 3] ty #[.slice (some ⟨g, 0, none⟩) n 1024, .int .i64 (k : Int)]).run Tryz.prog w = .ok (.slice (some ⟨g, 0, none⟩) 1024 1024) w') ∧ Bt w' g (L ++ List.replicate k 0) ∧ (∀ B a, B ≤ g → Below B a w → Below B a w') := by
  obtain ⟨i, hi, hz, hsz, hb⟩ := info_of infoU8
  subst hn
  have hbv : bV (List.replicate k 0) = List.replicate k (Value.int .u8 0) := by simp [bV]
  refine ⟨w.setCells g L.length (bV (List.replicate k 0)), fun ty => ?_, h.put (by simp; omega), fun B a hB hb => setCells_below hB _ _ _ hb⟩
  have hst := run_storeCells_cells (P := Tryz.prog) g L.length (bV (List.replicate k 0)) 0 w (fun j hj => by
    rw [bV_len, List.length_replicate] at hj
    exact (h.cell (by omega) _ (by omega)).1) (fun j hj => by
    rw [bV_len, List.length_replicate] at hj
    exact (h.cell (by omega) _ (by omega)).2) (bV_one _)
  rw [Nat.add_zero] at hst
  have hw : IntKind.i64.wrap (k : Int) = (k : Int) := by rw [IntKind.wrap_i64]; omega
  have h0 : ¬ (k : Int) < 0 := by omega
  have h1 : ¬ (281474976710656 : Int) < (k : Int) := by omega
  have hzc : (Builtin.zeroCells #[Value.int .u8 0] k).toList = List.replicate k (Value.int .u8 0) := by
    apply List.ext_getElem?
    intro j
    simp [Builtin.zeroCells, List.getElem?_replicate]
    split <;> simp_all [Nat.mod_one]
  by_cases hk0 : k = 0
  · subst hk0
    have : L.length = 1024 := by omega
    simp [Builtin.append_, run_underlying Tryz.underlying67, run_underlying Tryz.underlying3, sizeOf, typeInfo, hi, hb, this, storeCells, bV, World.setCells, asInt, asIntOf, IntKind.wrap_i64]
  · have had : (⟨g, 0, none⟩ : Addr).add L.length = ⟨g, L.length, none⟩ := by rw [add_at]; simp
    rw [hbv] at hst
    simp [Builtin.append_, run_underlying Tryz.underlying67, run_underlying Tryz.underlying3, sizeOf, typeInfo, zeroValue, hi, hz, hsz, hb, asInt, asIntOf, hw, hk0, hk, hbv, h0, h1]
    rw [had, show (Value.int IntKind.u8 0).cells = #[Value.int .u8 0] from rfl, hzc, hst]
    rfl
theorem u8_wrap (n : Nat) : IntKind.u8.wrap (n : Int) = ((n % 256 : Nat) : Int) := by rw [IntKind.wrap_u8]; omega
theorem byte_rw {w : World} {c : Nat} {L : List UInt8} (h : w.heap[c]? = some (.cells (bV L).toArray 5 (0, 0))) : Src Tryz.prog 1 67 (.slice (some ⟨c, 0, none⟩) L.length L.length) L.length (bV L) w := by
  refine Src.ofSlice w Tryz.underlying67 ⟨c, 0, none⟩ _ _ (bV L) (by rw [bV_len]; simp) (fun j u hu => ?_) (bV_one L)
  rw [add_at, Nat.zero_add, cell_of_row _ c _ _ _ _ h]
  simpa using hu
theorem str_src {w : World} (s : ByteArray) : Src Tryz.prog 1 9 (.string s) s.size (bV s.data.toList) w := Src.ofString w Tryz.underlying9 s
theorem made_zeros (n : Nat) : madeCells #[Value.int .u8 0] n = (List.replicate n (Value.int .u8 0)).toArray := by
  apply Array.ext
  · simp [madeCells]
  · intro i h1 h2
    simp [madeCells, Nat.mod_one]
theorem made_zero : madeCells #[Value.int .u8 0] 1024 = brow [] := made_zeros 1024
set_option maxRecDepth 100000 in
theorem made_row (V : World) : (Instr.makeSlice 67 (.int .i64 0) (.int .i64 1024)).run Tryz.prog V = .ok (.slice (some ⟨V.heap.size, 0, none⟩) 0 1024) (V.alloc (.cells (brow []) 5)) := by
  have := run_make (P := Tryz.prog) V 67 5 _ (.int .u8 0) Tryz.underlying67 rfl rfl .i64 .i64 0 1024 (by omega) (by omega) (by show (1 : Int) * _ ≤ _; omega) (by omega)
  rw [this, ← made_zero]
  rfl
set_option maxRecDepth 100000 in
set_option maxHeartbeats 4000000 in
theorem text_any {G : Nat → Prop} {w : World} (page : Int) (a : Option Addr) (n next : Nat) (es : List Pr) (h : Pw G w a n n es) (hz : szL es ≤ 1023) (hm : ∀ p ∈ es, May p) (hnx : next < 256) :
    Calls Tryz.prog 72 #[.agg #[.int .i64 page, .slice a n n, .int .i64 (szL es : Int)], .int .i64 (next : Int)] w fun e w' => e = .returned (.string (bytesOf (pageText ⟨page, es⟩ next))) ∧ Below w.heap.size w w' := by
  have hl := h.len
  have HP : Hid (∀ W, Below w.heap.size w W → Pw G W a n n es) := fun W hW => h.below hW
  have HM : Hid (∀ p ∈ es, May p) := hm
  have HZ : Hid (szL es ≤ 1023) := hz
  obtain ⟨S, hS⟩ : ∃ S, szL es = S := ⟨_, rfl⟩
  rw [hS] at hz ⊢
  have HS : Hid (szL es = S) := hS
  have hn : n ≤ 1023 := by have := es_len es; omega
  obtain ⟨B, hB⟩ : ∃ B, w.heap.size = B := ⟨_, rfl⟩
  obtain ⟨V1, hV1⟩ : ∃ V1, w.alloc (.cells #[.int .i64 page, .slice a n n, .int .i64 (S : Int)] 85) = V1 := ⟨_, rfl⟩
  have r1 : V1.heap[B]? = some (.cells #[.int .i64 page, .slice a n n, .int .i64 (S : Int)] 85 (0, 0)) := by rw [← hV1, ← hB]; exact heap_alloc_new w _
  have hb1 : Below B w V1 := by rw [← hV1, ← hB]; exact (Below.refl _ w).alloc (Nat.le_refl _) _
  have hsz1 : V1.heap.size = B + 1 := by rw [← hV1, ← hB]; simp
  have hmk := made_row V1
  obtain ⟨g, hg⟩ : ∃ g, V1.heap.size = g := ⟨_, rfl⟩
  obtain ⟨V2, hV2⟩ : ∃ V2, V1.alloc (.cells (brow []) 5) = V2 := ⟨_, rfl⟩
  rw [hg, hV2] at hmk
  have hB2 : Below V1.heap.size V1 V2 := by rw [← hV2]; exact (Below.refl _ V1).alloc (Nat.le_refl _) _
  have hbt2 : Bt V2 g [] := by unfold Bt; rw [← hV2, ← hg]; exact heap_alloc_new V1 _
  obtain ⟨V3, hV3⟩ : ∃ V3, V2.alloc (.cells #[.int .u8 (next : Int)] 5) = V3 := ⟨_, rfl⟩
  have hB3 : Below V2.heap.size V2 V3 := by rw [← hV3]; exact (Below.refl _ V2).alloc (Nat.le_refl _) _
  have hu8 : bV [UInt8.ofNat next] = [.int .u8 (next : Int)] := by
    simp only [bV, List.map_cons, List.map_nil, UInt8.toNat_ofNat']
    rw [Nat.mod_eq_of_lt (by omega)]
  have r3 : V3.heap[V2.heap.size]? = some (.cells (bV [UInt8.ofNat next]).toArray 5 (0, 0)) := by rw [← hV3, hu8]; exact heap_alloc_new V2 _
  have hgl2 : g < V2.heap.size := lt_of_some hbt2
  have hbt3 : Bt V3 g [] := (hB3.block g hgl2).trans hbt2
  obtain ⟨VA, hrA, hbtA, hoA, hbA⟩ := app_bytes hbt3 rfl (M := [UInt8.ofNat next]) (by simp) rfl (byte_rw r3)
  have hb3 : Below B w V3 := (hb1.trans (hB2.mono (by omega))).trans (hB3.mono (by have := hB2.size; omega))
  have hbwA : Below B w VA := hbA B w (by omega) hb3
  have rA : VA.heap[B]? = some (.cells #[.int .i64 page, .slice a n n, .int .i64 (S : Int)] 85 (0, 0)) := by
    rw [hoA B (by omega), hB3.block B (by have := hB2.size; omega), hB2.block B (by omega)]; exact r1
  have cA : VA.cell? ⟨B, 1, none⟩ = some (.slice a n n) := by rw [cell_of_row _ B _ _ _ _ rA]; rfl
  have hwn : IntKind.u8.wrap (next : Int) = (next : Int) := by rw [u8_wrap, Nat.mod_eq_of_lt (by omega)]
  rw [hB] at HP ⊢
  have HI : Hid (Bt VA g (UInt8.ofNat next :: encL (es.take 0)) ∧ Below B w VA ∧ B ≤ g) := ⟨by simpa [encL] using hbtA, hbwA, by omega⟩
  clear h hm hS r1 hb1 hsz1 hB2 hbt2 hB3 r3 hbt3 hbtA hoA hbA hb3 hbwA rA hgl2 hu8
  go_enter Tryz.func72, Tryz.ntmps72
  go_wp2_with (at_builtin; refine wpList_app V3 rfl _ _ _ _ rfl rfl rfl (hrA _) ?_)
  go_loopw [5, 17] (fun vb vi wr => ∃ i x : Nat, i ≤ n ∧ vi = .int .i64 i ∧ vb = .slice (some ⟨g, 0, none⟩) x 1024 ∧ x = 1 + szL (es.take i) ∧ Bt wr g (UInt8.ofNat next :: encL (es.take i)) ∧ Below B w wr) (fun _ vi _ => n - (intOf vi).toNat)
  case atStart => exact ⟨0, 1, by omega, rfl, rfl, by simp [szL], HI.out.1, HI.out.2.1⟩
  case round =>
    have hBg := HI.out.2.2
    clear HI hrA cA hmk hV1 hV2 hV3
    obtain ⟨i, x, hi, rfl, rfl, hx, hbt, hbel⟩ := hrel
    by_cases hlt : i < n
    · have kk : (i : Int) < (n : Int) := by omega
      have hil : i < es.length := by omega
      have hp : es[i]? = some es[i] := List.getElem?_eq_getElem hil
      obtain ⟨p, hpp⟩ : ∃ p, es[i] = p := ⟨_, rfl⟩
      rw [hpp] at hp
      obtain ⟨b2, o2, rfl, hb2, _, hc2⟩ := (HP.out wr hbel).at (by omega)
      obtain ⟨d1, d2⟩ := hc2 i p hp
      have hmy := HM.out p (List.mem_of_getElem? hp)
      have hsn := sz_take_succ hp
      have htd := sz_take_drop es (i + 1)
      have hen : encL (es.take (i + 1)) = encL (es.take i) ++ encE p := by rw [take_snoc hp, encL_snoc]
      obtain ⟨k, v⟩ := p
      obtain ⟨m1, m2, m3⟩ := hmy
      simp only at d1 d2 m1 m2 m3
      have hesz : eSz (k, v) = 3 + k.size + v.size := rfl
      have hL0 : (UInt8.ofNat next :: encL (es.take i)).length = x := by rw [List.length_cons, encL_len]; omega
      have htot : x + 3 + k.size + v.size ≤ 1024 := by have := HS.out; omega
      obtain ⟨u, hu⟩ : ∃ u, wr.heap.size = u := ⟨_, rfl⟩
      obtain ⟨V1, hV1⟩ : ∃ V1, wr.alloc (.cells #[.string k, .string v] 63) = V1 := ⟨_, rfl⟩
      have hB1 : Below wr.heap.size wr V1 := by rw [← hV1]; exact (Below.refl _ wr).alloc (Nat.le_refl _) _
      have r1 : V1.heap[u]? = some (.cells #[.string k, .string v] 63 (0, 0)) := by rw [← hV1, ← hu]; exact heap_alloc_new wr _
      have y0 : V1.cell? ⟨u, 0, none⟩ = some (.string k) := by rw [cell_of_row _ _ _ _ _ _ r1]; rfl
      have y1 : V1.cell? ⟨u, 1, none⟩ = some (.string v) := by rw [cell_of_row _ _ _ _ _ _ r1]; rfl
      obtain ⟨v0, hv0⟩ : ∃ v0 : Nat, v.size % 256 = v0 := ⟨_, rfl⟩
      obtain ⟨v1, hv1⟩ : ∃ v1 : Nat, v.size / 256 = v1 := ⟨_, rfl⟩
      have w1 : IntKind.u8.wrap (k.size : Int) = (k.size : Int) := by rw [u8_wrap, Nat.mod_eq_of_lt (by omega)]
      have w2 : IntKind.u8.wrap (v.size : Int) = (v0 : Int) := by rw [u8_wrap, hv0]
      have w3 : IntKind.u8.wrap (v1 : Int) = (v1 : Int) := by rw [u8_wrap, Nat.mod_eq_of_lt (by omega)]
      have w4 : (v.size : Int) / 256 = (v1 : Int) := by omega
      have w5 : v.size >>> 8 = v1 := by rw [Nat.shiftRight_eq_div_pow]; exact hv1
      obtain ⟨V2, hV2⟩ : ∃ V2, V1.alloc (.cells #[.int .u8 (k.size : Int), .int .u8 (v0 : Int), .int .u8 (v1 : Int)] 5) = V2 := ⟨_, rfl⟩
      have hB2 : Below V1.heap.size V1 V2 := by rw [← hV2]; exact (Below.refl _ V1).alloc (Nat.le_refl _) _
      have hu3 : bV [UInt8.ofNat k.size, UInt8.ofNat v.size, UInt8.ofNat (v.size / 256)] = [.int .u8 (k.size : Int), .int .u8 (v0 : Int), .int .u8 (v1 : Int)] := by
        simp only [bV, List.map_cons, List.map_nil, UInt8.toNat_ofNat']
        rw [Nat.mod_eq_of_lt (show k.size < 2 ^ 8 by omega), show v.size % 2 ^ 8 = v0 from hv0, Nat.mod_eq_of_lt (show v.size / 256 < 2 ^ 8 by omega), hv1]
      have r2 : V2.heap[V1.heap.size]? = some (.cells (bV [UInt8.ofNat k.size, UInt8.ofNat v.size, UInt8.ofNat (v.size / 256)]).toArray 5 (0, 0)) := by rw [← hV2, hu3]; exact heap_alloc_new V1 _
      have hgl : g < wr.heap.size := lt_of_some hbt
      have hB02 : Below wr.heap.size wr V2 := hB1.trans (hB2.mono hB1.size)
      have hbt2 : Bt V2 g (UInt8.ofNat next :: encL (es.take i)) := (hB02.block g hgl).trans hbt
      have hbw2 : Below B w V2 := hbel.trans (hB02.mono (by have := hbel.size; omega))
      obtain ⟨VA, hrA, hbtA, hoA, hbA⟩ := app_bytes hbt2 hL0 (M := [UInt8.ofNat k.size, UInt8.ofNat v.size, UInt8.ofNat (v.size / 256)]) (by rw [hL0]; simp; omega) rfl (byte_rw r2)
      have hug : u ≠ g := by omega
      have hkeep : ∀ W : World, W.heap[u]? = V1.heap[u]? → W.cell? ⟨u, 0, none⟩ = some (.string k) ∧ W.cell? ⟨u, 1, none⟩ = some (.string v) := fun W hW => ⟨by rw [World.cell?_of_block (w := V1) hW]; exact y0, by rw [World.cell?_of_block (w := V1) hW]; exact y1⟩
      have eA : VA.heap[u]? = V1.heap[u]? := (hoA u hug).trans (hB2.block u (lt_of_some r1))
      obtain ⟨a0, a1⟩ := hkeep VA eA
      obtain ⟨VB, hrB, hbtB, hoB, hbB⟩ := app_bytes hbtA (n := x + 3) (by rw [List.length_append, hL0]; rfl) (M := k.data.toList) (by rw [List.length_append, hL0, size_list]; simp; omega) (size_list k) (str_src k)
      have eB : VB.heap[u]? = V1.heap[u]? := (hoB u hug).trans eA
      obtain ⟨q0, q1⟩ := hkeep VB eB
      obtain ⟨VC, hrC, hbtC, hoC, hbC⟩ := app_bytes hbtB (n := x + 3 + k.size) (by rw [List.length_append, List.length_append, hL0, size_list]; rfl) (M := v.data.toList) (by rw [List.length_append, List.length_append, hL0, size_list, size_list]; simp; omega) (size_list v) (str_src v)
      have HE : Hid (Bt VC g (UInt8.ofNat next :: encL (es.take (i + 1))) ∧ Below B w VC ∧ x + 3 + k.size + v.size = 1 + szL (es.take (i + 1))) := by
        refine ⟨?_, hbC B w hBg (hbB B w hBg (hbA B w hBg hbw2)), by omega⟩
        rw [hen]
        have e : encE (k, v) = [UInt8.ofNat k.size, UInt8.ofNat v.size, UInt8.ofNat (v.size / 256)] ++ (k.data.toList ++ v.data.toList) := rfl
        rw [e]
        simpa using hbtC
      have ll : ([UInt8.ofNat k.size, UInt8.ofNat v.size, UInt8.ofNat (v.size / 256)]).length = 3 := rfl
      rw [ll] at hrA
      have hxb : x ≤ 1024 := by omega
      clear hbt hbel hc2 hp hpp hB1 r1 hB2 r2 hB02 hbt2 hbw2 hbtA hoA hbA hkeep eA hbtB hoB hbB eB hbtC hoC hbC hen hsn htd hL0 hu3 hv0 hv1 hgl hx hesz ll
      go_wp2_with (at_builtin; first | refine wpList_app V2 rfl _ _ _ _ rfl rfl rfl (hrA _) ?_ | refine wpList_app VA rfl _ _ _ _ rfl rfl rfl (hrB _) ?_ | refine wpList_app VB rfl _ _ _ _ rfl rfl rfl (hrC _) ?_)
      exact ⟨⟨i + 1, x + 3 + k.size + v.size, by omega, by go_num, rfl, HE.out.2.2, HE.out.1, HE.out.2.1⟩, by simp [intOf]; omega⟩
    · obtain rfl : i = n := by omega
      have kk : ¬ (i : Int) < (i : Int) := by omega
      rw [List.take_of_length_le (by omega)] at hx hbt
      rw [HS.out] at hx
      obtain ⟨r, hr⟩ : ∃ r : Nat, x + r = 1024 := ⟨1024 - x, by omega⟩
      have hri : (1024 : Int) - (x : Int) = (r : Int) := by omega
      have hL0 : (UInt8.ofNat next :: encL es).length = x := by rw [List.length_cons, encL_len, HS.out]; omega
      obtain ⟨VZ, hrZ, hbtZ, hbZ⟩ := app_zeros hbt hL0 hr
      have hlZ : ((UInt8.ofNat next :: encL es) ++ List.replicate r 0).length = 1024 := by rw [List.length_append, hL0, List.length_replicate]; exact hr
      have hcv := conv_row VZ g 1024 ((UInt8.ofNat next :: encL es) ++ List.replicate r 0) hlZ (fun j hj => by
        rw [cell_of_row _ g _ _ _ _ hbtZ, Nat.zero_add]
        simp only [brow, List.getElem?_toArray]
        rw [List.getElem?_append_left (by rw [bV_len, hlZ]; exact hj)]
        simp only [bV, List.getElem?_map, List.getD_eq_getElem?_getD]
        rw [List.getElem?_eq_getElem (by rw [hlZ]; exact hj)]
        rfl)
      have HR : Hid (strOf ((UInt8.ofNat next :: encL es) ++ List.replicate r 0) = bytesOf (pageText ⟨page, es⟩ next)) := by
        show _ = _
        unfold pageText
        have e : r = 1023 - Lf.sz ⟨page, es⟩ := by show r = 1023 - szL es; rw [HS.out]; omega
        rw [e]
        rfl
      rw [HR.out] at hcv
      have HB : Hid (Below B w VZ) := hbZ B w hBg hbel
      clear hbt hbel hbtZ hbZ hlZ hL0 hx HR hr
      go_wp2_with (at_builtin; refine wpList_app wr rfl _ _ _ _ rfl rfl rfl (hrZ _) ?_)
      go_ret
      exact ⟨rfl, HB.out⟩
end Go.Proofs.YtnafalkcgghjgaaGreatDoor
