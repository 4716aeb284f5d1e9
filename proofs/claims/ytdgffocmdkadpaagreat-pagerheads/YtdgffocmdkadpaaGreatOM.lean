/- Bytes that came in; a page 0 that is committed. -/
import Derived.Test.YtdgffocmdkadpaaGreatOL
namespace Go.Proofs.YtdgffocmdkadpaaGreat
open Go.ChangeShapes Go.WideShapes Go.ChangeAt Go.RowKit Go.Deep Go.Shelf Pg
/-- Bytes that lie in memory. -/
def Bs (w : World) (a : Option Addr) (len cap : Nat) (l : List UInt8) : Prop :=
  l.length = len ∧ len ≤ cap ∧ cap ≤ 9223372036854775807 ∧ (0 < len → ∃ b o, a = some ⟨b, o, none⟩ ∧ b < w.heap.size ∧ ∀ i (h : i < l.length), w.cell? ⟨b, o + i, none⟩ = some (.int .u8 ((l[i].toNat : Nat) : Int)))
theorem Bs.on {w w' : World} {a : Option Addr} {len cap : Nat} {l : List UInt8} (h : Bs w a len cap l) (hb : Below w.heap.size w w') : Bs w' a len cap l := by
  obtain ⟨h1, h2, h3, h4⟩ := h
  refine ⟨h1, h2, h3, fun h0 => ?_⟩
  obtain ⟨b, o, rfl, hlt, hc⟩ := h4 h0
  exact ⟨b, o, rfl, Nat.lt_of_lt_of_le hlt hb.size, fun i hi => by rw [hb.cell hlt]; exact hc i hi⟩
set_option maxRecDepth 100000 in
theorem bs_of {H : Type} {enc : TypeId × Value → H} {W : World} {base : Nat} {spare : Nat → Bool} {held : Bool} {fuel : Nat} {a : Option Addr} {len cap : Nat} {x : DataW H × List MemPlace}
    (hf : DataW.trod enc Tryz.prog W base spare held fuel 22 [.slice a len cap] = some x) : ∃ l, Bs W a len cap l := by
  rcases open_slice1 Tryz.underlying22 (by kernel_rfl) hf with ⟨hcs, _⟩ | ⟨ad, l, c, m, n, V, D, Pl, hcs, _, hl, hm, hmm, _, hV⟩
  · simp only [List.cons.injEq, Value.slice.injEq, and_true] at hcs
    obtain ⟨rfl, rfl, rfl⟩ := hcs
    exact ⟨[], rfl, by omega, by omega, by omega⟩
  · simp only [List.cons.injEq, Value.slice.injEq, and_true] at hcs
    obtain ⟨rfl, rfl, rfl⟩ := hcs
    have hlm : len ≤ m := by rw [hmm]; split <;> omega
    have hb : ∀ i, i < len → ∃ b : UInt8, W.cell? (ad.add i) = some (.int .u8 ((b.toNat : Nat) : Int)) := by
      intro i hi
      obtain ⟨h1, h2⟩ := hV i (by omega)
      obtain ⟨y, e, _, wy⟩ := DataW.trod_int Tryz.underlying5 h2
      simp only [List.cons.injEq, and_true] at e
      have r := wf_u8 wy
      obtain ⟨f, rfl⟩ := Int.eq_ofNat_of_zero_le r.1
      exact ⟨UInt8.ofNat f, by rw [h1, e, toNat_ofNat (by omega)]⟩
    obtain ⟨f, hf⟩ := choose_lt (α := UInt8) hb
    refine ⟨(List.range len).map f, by simp, hl, by simpa [maxLen] using hm, fun h0 => ?_⟩
    obtain ⟨bb, oo, spot⟩ := ad
    have hspot : spot = none := by simpa [Addr.add] using World.cell?_spot (hf 0 h0)
    subst hspot
    refine ⟨bb, oo, rfl, ?_, fun i hi => ?_⟩
    · have := World.block_lt_of_cell? W _ (hf 0 h0)
      rwa [add_at] at this
    · simp only [List.length_map, List.length_range] at hi
      have := hf i hi
      rw [add_at] at this
      rw [this]
      simp
theorem copy_none {P : Program} (w : World) (dT sT ty elem : TypeId) (d : Value) (dl : Nat) (g c : Nat) (a : Option Addr) (cap : Nat) (hd : d = .slice (some ⟨g, 0, none⟩) dl c) (hu : P.underlying dT = some (.slice elem)) (hs : (P.info? elem).map (·.size) = some 1) :
    (Builtin.copy_ #[dT, sT] ty #[d, .slice a 0 cap]).run P w = .ok (goInt 0) w := by
  subst hd
  cases hq : P.info? elem with
  | none => simp [hq] at hs
  | some i =>
    cases a with
    | none => simp [Builtin.copy_, Sem.run_bind, run_underlying hu, Builtin.lenOf, Builtin.firstCells, sizeOf, typeInfo, hq, storeCells]
    | some ad => simp [Builtin.copy_, Sem.run_bind, run_underlying hu, Builtin.lenOf, Builtin.firstCells, sizeOf, typeInfo, hq, storeCells, loadCells, loadCellsFrom]
theorem copy_bs {W : World} {g : Nat} {a : Option Addr} {len cap : Nat} {l : List UInt8} (hb : Bs W a len cap l) (hg : W.heap[g]? = some (.cells (u8L (List.replicate 1024 0)).toArray 5 (0, 0))) :
    ∃ (L : List UInt8) (k : Nat) (W' : World), L.length = 1024 ∧ (∀ ty, (Builtin.copy_ #[22, 22] ty #[.slice (some ⟨g, 0, none⟩) 1024 1024, .slice a len cap]).run Tryz.prog W = .ok (goInt k) W') ∧ W'.heap[g]? = some (.cells (u8L L).toArray 5 (0, 0)) ∧ Upd (fun x => x = g) W W' := by
  obtain ⟨h1, h2, h3, h4⟩ := hb
  by_cases h0 : len = 0
  · subst h0
    exact ⟨List.replicate 1024 0, 0, W, by rw [List.length_replicate], fun ty => copy_none W _ _ ty 5 _ _ g _ _ _ rfl Tryz.underlying22 (by kernel_rfl), hg, Upd.refl _ _⟩
  · obtain ⟨b, o, rfl, hlt, hc⟩ := h4 (by omega)
    obtain ⟨m, hm⟩ : ∃ m, min len 1024 = m := ⟨_, rfl⟩
    have hlt2 : (u8L (l.take m)).length = m := by rw [u8L_len, List.length_take]; omega
    have hcp := fun ty => run_copy_row (P := Tryz.prog) W 22 22 ty 5 g 0 1024 1024 ⟨b, o, none⟩ len cap (u8L (List.replicate 1024 0)).toArray 5 (u8L (l.take m)) Tryz.underlying22 (by kernel_rfl) hg (by rw [hlt2, ← hm]) (fun j v hv => by
      rw [add_at]
      have hj : j < m := by have := (List.getElem?_eq_some_iff.1 hv).1; rwa [hlt2] at this
      have hjl : j < l.length := by omega
      rw [hc j hjl]
      unfold u8L at hv
      rw [List.getElem?_map, List.getElem?_take, if_pos hj, List.getElem?_eq_getElem hjl] at hv
      exact hv) (by rw [hlt2, List.size_toArray, u8L_len, List.length_replicate]; omega) (u8L_one _)
    have e5 : ((u8L (List.replicate 1024 0)).toArray.toList.take 0 ++ u8L (l.take m) ++ (u8L (List.replicate 1024 0)).toArray.toList.drop (0 + (u8L (l.take m)).length)).toArray = (u8L (l.take m ++ (List.replicate 1024 0).drop m)).toArray := by
      rw [hlt2]
      unfold u8L
      simp only [List.map_append, List.map_drop, List.take_zero, List.nil_append, Nat.zero_add]
    rw [e5] at hcp
    obtain ⟨L, hL⟩ : ∃ L, l.take m ++ (List.replicate 1024 (0 : UInt8)).drop m = L := ⟨_, rfl⟩
    rw [hL] at hcp
    obtain ⟨W', hW'⟩ : ∃ W', W.setRow g (u8L L).toArray = W' := ⟨_, rfl⟩
    rw [hW'] at hcp
    refine ⟨L, _, W', ?_, hcp, by rw [← hW']; exact setRow_heap W g _ _ _ _ hg, ?_⟩
    rotate_left
    · rw [← hW']
      exact ⟨rfl, rfl, rfl, by rw [size_setRow]; exact Nat.le_refl _, fun x _ hx => setRow_other W g x _ hx⟩
    rw [← hL]
    rw [List.length_append, List.length_take, List.length_drop, List.length_replicate]
    omega
theorem com_one' {n : Nat} {D : Dk} (h : Good n D) (hn1 : 1 ≤ n) (hn : n ≤ 128) (l : List Chi) (s : ByteArray) (hck : chk n l = 0) (hs : s.size = 1024) (hm : ((0, s) : Chg) ∈ srtC l) : comCode n D l = 0 ∧ Good n (comDisk n D l) ∧ pgOf n (comDisk n D l) 0 = s := by
  obtain ⟨h1, h2, h3, h4⟩ := h.commit hn l
  obtain ⟨r1, r2, r3, r4⟩ := com_ready hn hck
  have h5 := page_rec (h4 hck) h2.td 0 (by omega)
  have h6 := pgP_new (P := ownP n D.kept) r3 hm hs
  exact ⟨by rw [h1, hck], h2, by unfold pgOf; rw [h2.seen, h5]; exact h6⟩
theorem com_one {n : Nat} {D : Dk} (h : Good n D) (hn1 : 1 ≤ n) (hn : n ≤ 128) (s : ByteArray) (hs : s.size = 1024) : comCode n D [(0, s)] = 0 ∧ Good n (comDisk n D [(0, s)]) ∧ pgOf n (comDisk n D [(0, s)]) 0 = s := by
  have hck : chk n [(0, s)] = 0 := by
    have q1 : ∀ c ∈ ([(0, s)] : List Chi), 0 ≤ c.1 ∧ c.1 < (n : Int) := fun c hc => by
      obtain rfl := List.mem_singleton.1 hc
      exact ⟨Int.le_refl _, by show (0 : Int) < n; omega⟩
    have q2 : (([(0, s)] : List Chi).map Prod.fst).Nodup := by simp
    have q3 : ∀ c ∈ ([(0, s)] : List Chi), c.2.size = 1024 := fun c hc => by
      obtain rfl := List.mem_singleton.1 hc
      exact hs
    unfold chk
    rw [if_pos q1, if_pos q2, if_pos q3]
  have hm : ((0, s) : Chg) ∈ srtC [(0, s)] := (srtC_perm _).mem_iff.2 (List.mem_singleton.2 rfl)
  exact com_one' h hn1 hn _ s hck hs hm
end Go.Proofs.YtdgffocmdkadpaaGreat
