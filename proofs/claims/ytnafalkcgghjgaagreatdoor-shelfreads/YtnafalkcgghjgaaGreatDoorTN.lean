/- What ShelfReads wants: slices of bytes that came in, pages that are filled, stores beside rows. -/
import Derived.Test.YtnafalkcgghjgaaGreatDoorTL
namespace Go.Proofs.YtnafalkcgghjgaaGreatDoor
open Go.ChangeShapes Go.WideShapes Go.ChangeAt Go.RowKit Go.Deep Go.Shelf
/-- Bytes that came in. -/
def ByI (w : World) (a : Option Addr) (len _cap : Nat) (bs : List UInt8) : Prop :=
  bs.length = len ∧ (0 < len → ∃ bb bo, a = some ⟨bb, bo, none⟩ ∧ bb < w.heap.size ∧ ∀ i, i < len → w.cell? ⟨bb, bo + i, none⟩ = some (.int .u8 (((bs.getD i 0).toNat : Nat) : Int)))
theorem ByI.below {w w' : World} {a : Option Addr} {len cap : Nat} {bs : List UInt8} (h : ByI w a len cap bs) (hb : Below w.heap.size w w') : ByI w' a len cap bs := by
  obtain ⟨h1, h4⟩ := h
  refine ⟨h1, fun h0 => ?_⟩
  obtain ⟨bb, bo, e, hlt, hc⟩ := h4 h0
  exact ⟨bb, bo, e, Nat.lt_of_lt_of_le hlt hb.size, fun i hi => by rw [hb.cell hlt]; exact hc i hi⟩
/-- Slices of bytes that came in. -/
def Bss (w : World) (a : Option Addr) (len cap : Nat) : Prop :=
  len ≤ cap ∧ cap ≤ 9223372036854775807 ∧ (0 < len → ∃ b o, a = some ⟨b, o, none⟩ ∧ b < w.heap.size ∧ ∀ i, i < len → ∃ (a' : Option Addr) (l' c' : Nat) (bs : List UInt8), w.cell? ⟨b, o + i, none⟩ = some (.slice a' l' c') ∧ ByI w a' l' c' bs)
theorem bys_of {H : Type} {enc : TypeId × Value → H} {W : World} {base : Nat} {spare : Nat → Bool} {held : Bool} {fuel : Nat} {a : Option Addr} {len cap : Nat} {x : DataW H × List MemPlace}
    (hf : DataW.trod enc Tryz.prog W base spare held fuel 67 [.slice a len cap] = some x) : ∃ bs, ByI W a len cap bs := by
  rcases open_slice1 Tryz.underlying67 (by kernel_rfl) hf with ⟨hcs, _⟩ | ⟨ad, l, c, m, n, V, D, Pl, hcs, _, hl, hm, hmm, _, hV⟩
  · simp only [List.cons.injEq, Value.slice.injEq, and_true] at hcs
    obtain ⟨rfl, rfl, rfl⟩ := hcs
    exact ⟨[], rfl, fun h => absurd h (by omega)⟩
  · simp only [List.cons.injEq, Value.slice.injEq, and_true] at hcs
    obtain ⟨rfl, rfl, rfl⟩ := hcs
    have hlm : len ≤ m := by rw [hmm]; split <;> omega
    have hb : ∀ i, i < len → ∃ b : UInt8, W.cell? (ad.add i) = some (.int .u8 ((b.toNat : Nat) : Int)) := by
      intro i hi
      obtain ⟨h1, h2⟩ := hV i (by omega)
      obtain ⟨y, hy, _, hw⟩ := DataW.trod_int Tryz.underlying5 h2
      simp only [List.cons.injEq, and_true] at hy
      have hr := wf_u8 hw
      refine ⟨UInt8.ofNat y.toNat, ?_⟩
      rw [h1, hy]
      have : (UInt8.ofNat y.toNat).toNat = y.toNat := by rw [UInt8.toNat_ofNat']; omega
      rw [this, show ((y.toNat : Nat) : Int) = y by omega]
    obtain ⟨f, hf⟩ := choose_lt hb
    refine ⟨(List.range len).map f, by simp, fun h0 => ?_⟩
    obtain ⟨bb, oo, spot⟩ := ad
    have hspot : spot = none := by simpa [Addr.add] using World.cell?_spot (hf 0 h0)
    subst hspot
    refine ⟨bb, oo, rfl, ?_, fun i hi => ?_⟩
    · have := World.block_lt_of_cell? W _ (hf 0 h0)
      rwa [add_at] at this
    · have := hf i hi
      rw [add_at] at this
      rw [this, List.getD_eq_getElem?_getD, List.getElem?_map, List.getElem?_range hi]
      rfl
theorem bss_of {H : Type} {enc : TypeId × Value → H} {W : World} {base : Nat} {spare : Nat → Bool} {held : Bool} {fuel : Nat} {a : Option Addr} {len cap : Nat} {x : DataW H × List MemPlace}
    (hf : DataW.trod enc Tryz.prog W base spare held fuel 65 [.slice a len cap] = some x) : Bss W a len cap := by
  rcases open_slice1 Tryz.underlying65 (by kernel_rfl) hf with ⟨hcs, _⟩ | ⟨ad, l, c, m, n, V, D, Pl, hcs, _, hl, hm, hmm, _, hV⟩
  · simp only [List.cons.injEq, Value.slice.injEq, and_true] at hcs
    obtain ⟨rfl, rfl, rfl⟩ := hcs
    exact ⟨Nat.le_refl _, by omega, fun h => absurd h (by omega)⟩
  · simp only [List.cons.injEq, Value.slice.injEq, and_true] at hcs
    obtain ⟨rfl, rfl, rfl⟩ := hcs
    have hlm : len ≤ m := by rw [hmm]; split <;> omega
    have hb : ∀ i, i < len → ∃ (a' : Option Addr) (l' c' : Nat) (bs : List UInt8), W.cell? (ad.add i) = some (.slice a' l' c') ∧ ByI W a' l' c' bs := by
      intro i hi
      obtain ⟨h1, h2⟩ := hV i (by omega)
      obtain ⟨a', l', c', hs⟩ := sl_of Tryz.underlying67 h2
      rw [hs] at h1 h2
      obtain ⟨bs, hbs⟩ := bys_of h2
      exact ⟨a', l', c', bs, h1, hbs⟩
    refine ⟨hl, by simpa [maxLen] using hm, fun h0 => ?_⟩
    obtain ⟨a0, l0, c0, bs0, h00, _⟩ := hb 0 h0
    obtain ⟨bb, oo, spot⟩ := ad
    have hspot : spot = none := by simpa [Addr.add] using World.cell?_spot h00
    subst hspot
    refine ⟨bb, oo, rfl, ?_, fun i hi => ?_⟩
    · have := World.block_lt_of_cell? W _ h00
      rwa [add_at] at this
    · obtain ⟨a', l', c', bs, h1, h2⟩ := hb i hi
      rw [add_at] at h1
      exact ⟨a', l', c', bs, h1, h2⟩
theorem brow_list (L : List UInt8) : (brow L).toList = bV L ++ List.replicate (1024 - L.length) (Value.int .u8 0) := by unfold brow; simp
theorem bV_at (L : List UInt8) (j : Nat) : (bV L)[j]? = L[j]?.map fun b => Value.int .u8 ((b.toNat : Nat) : Int) := by unfold bV; rw [List.getElem?_map]
set_option maxRecDepth 100000 in
/-- A new page, into which bytes are copied. -/
theorem copy_in {W : World} {g : Nat} (hg : Bt W g []) {a : Option Addr} {len cap : Nat} {bs : List UInt8} (h : ByI W a len cap bs) :
    ∃ (m : Nat) (W' : World) (L : List UInt8), (∀ ty, (Builtin.copy_ #[67, 67] ty #[.slice (some ⟨g, 0, none⟩) 1024 1024, .slice a len cap]).run Tryz.prog W = .ok (.int .i64 (m : Int)) W') ∧ Bt W' g L ∧ L.length ≤ 1024 ∧ ∀ B, B ≤ g → Below B W W' := by
  by_cases h0 : 0 < len
  · obtain ⟨bb, bo, rfl, _, hc⟩ := h.2 h0
    have hl := h.1
    have hlen : (bV (bs.take 1024)).length = Nat.min len 1024 := by rw [bV_len, List.length_take, hl]; exact Nat.min_comm _ _
    have hb0 : (brow []).size = 1024 := by rw [← Array.length_toList, brow_list, List.length_append, bV_len, List.length_replicate]; rfl
    refine ⟨(bs.take 1024).length, W.setRow g (brow (bs.take 1024)), bs.take 1024, fun ty => ?_, ?_, by rw [List.length_take]; omega, fun B hB => below_row (Below.refl _ _) g hB _⟩
    · have := run_copy_row (P := Tryz.prog) W 67 67 ty 5 g 0 1024 1024 ⟨bb, bo, none⟩ len cap (brow []) 5 (bV (bs.take 1024)) Tryz.underlying67 (by kernel_rfl) hg hlen (fun j v hv => by
        rw [bV_at] at hv
        rcases Nat.lt_or_ge j (bs.take 1024).length with hj | hj
        · rw [List.getElem?_eq_getElem hj] at hv
          have hjl : j < len := by rw [List.length_take] at hj; omega
          rw [add_at, hc j hjl, ← hv, List.getElem_take, List.getD_eq_getElem?_getD, List.getElem?_eq_getElem (by omega)]
          rfl
        · rw [List.getElem?_eq_none hj] at hv
          cases hv) (by rw [hb0, bV_len, List.length_take]; omega) (bV_one _)
      rw [this]
      congr 2
      · rw [bV_len]
      · unfold brow
        rw [List.take_zero, List.nil_append, Nat.zero_add, bV_len]
        simp only [bV, List.map_nil, List.nil_append, List.length_nil, Nat.sub_zero, List.drop_replicate]
    · exact setRow_heap _ _ _ _ _ _ hg
  · have e0 : len = 0 := by omega
    subst e0
    exact ⟨0, W, [], fun ty => run_copy_none W 67 67 ty 5 _ _ 1024 1024 0 cap Tryz.underlying67 (by kernel_rfl) (by simp), hg, by simp, fun B _ => Below.refl _ _⟩
set_option maxRecDepth 100000 in
theorem made_full (V : World) : (Instr.makeSlice 67 (.int .i64 1024) (.int .i64 1024)).run Tryz.prog V = .ok (.slice (some ⟨V.heap.size, 0, none⟩) 1024 1024) (V.alloc (.cells (brow []) 5)) := by
  have := run_make (P := Tryz.prog) V 67 5 _ (.int .u8 0) Tryz.underlying67 rfl rfl .i64 .i64 1024 1024 (by omega) (by omega) (by show (1 : Int) * _ ≤ _; omega) (by omega)
  rw [this, ← made_zero]
  rfl
/-- The page's text. -/
theorem page_conv {W : World} {g : Nat} {L : List UInt8} (h : Bt W g L) (hl : L.length ≤ 1024) : ∃ s : ByteArray, s.size = 1024 ∧ (convert 67 9 (.slice (some ⟨g, 0, none⟩) 1024 1024)).run Tryz.prog W = .ok (.string s) W := by
  refine ⟨strOf (L ++ List.replicate (1024 - L.length) 0), by rw [strOf_size, List.length_append, List.length_replicate]; omega, ?_⟩
  refine conv_row W g 1024 _ (by rw [List.length_append, List.length_replicate]; omega) (fun i hi => ?_)
  rw [Nat.zero_add, cell_of_row _ _ _ _ _ _ h]
  have e : (brow L)[i]? = (brow L).toList[i]? := by simp
  rw [e, brow_list, List.getD_eq_getElem?_getD]
  rcases Nat.lt_or_ge i L.length with hj | hj
  · rw [List.getElem?_append_left (by rw [bV_len]; exact hj), List.getElem?_append_left hj, bV_at, List.getElem?_eq_getElem hj]
    rfl
  · rw [List.getElem?_append_right (by rw [bV_len]; exact hj), List.getElem?_append_right hj, bV_len, List.getElem?_replicate, List.getElem?_replicate, if_pos (by omega), if_pos (by omega)]
    rfl
section
variable {w0 V : World} {S : Nat → Prop} {g : Nat} {D : Dk} {sb jb n : Nat} {L K : List Mf} {a : Option Addr} {la ca : Nat} {A : List Pr} {b : Option Addr} {lb cb : Nat} {B : List Pr}
theorem Wj.on (h : Wj w0 V S g D jb n a la ca A b lb cb B) : Below w0.heap.size w0 V := by obtain ⟨F, _, _, _, hb⟩ := h; exact hb
theorem Wj.below {V' : World} (h : Wj w0 V S g D jb n a la ca A b lb cb B) (hb : Below V.heap.size V V') : Wj w0 V' S g D jb n a la ca A b lb cb B := by
  obtain ⟨F, ht, h1, h2, h0⟩ := h
  exact ⟨_, ht.below hb, h1.fr (Fr.below hb), h2.fr (Fr.below hb), h0.trans (hb.mono h0.size)⟩
theorem Wj.mut {D' : Dk} {V' : World} (h : Wj w0 V S g D jb n a la ca A b lb cb B) (m : Mut S V g D' V') : ∃ S', Wj w0 V' S' g D' jb n a la ca A b lb cb B := by
  obtain ⟨F, ht, h1, h2, h0⟩ := h
  obtain ⟨S', hd, hu, hs⟩ := m
  have hf : Fr F V F V' := ⟨hu.size, fun _ h => h, fun x hx hl => hu.block x hl (ht.fF x hx).1⟩
  have hout : ∀ x, ¬ S x → x < V.heap.size → ¬ S' x := fun x hx hl hs' => (hs x hs').elim hx (fun k => by omega)
  refine ⟨S', F, ⟨hd, ht.jat.upd hu ht.sj, hout jb ht.sj ht.jat.lt, fun x hx => ?_, fun x hx => ?_, Nat.le_trans ht.h0w hu.size⟩, h1.fr hf, h2.fr hf, h0.trans (hu.below ht.h0w ht.h0S)⟩
  · obtain ⟨k1, k2, k3⟩ := ht.fF x hx
    exact ⟨hout x k1 k3, k2, Nat.lt_of_lt_of_le k3 hu.size⟩
  · rcases hs x hx with k | k
    · exact ht.h0S x k
    · exact Nat.le_trans ht.h0w k
theorem Wj.disk (h : Wj w0 V S g D jb n a la ca A b lb cb B) : DiskIs V S g D ∧ Jat V jb g n ∧ ¬ S jb := by
  obtain ⟨F, ht, h1, h2, h0⟩ := h
  exact ⟨ht.disk, ht.jat, ht.sj⟩
/-- What Open tells of whatever pages. -/
theorem wj_open2 (h : Wj w0 V S g D jb n a la ca A b lb cb B) (hn2 : 2 ≤ n) (hn : n ≤ 12) (hg : Good n D) :
    Calls Tryz.prog 22 #[.pointer (some ⟨jb, 0, none⟩)] V fun e w' => (∃ sb' L', e = .returned (.tuple #[.pointer (some ⟨sb', 0, none⟩), .int .i64 0]) ∧ Wh w0 w' S g D sb' jb n L' L' a la ca A b lb cb B) ∨ (e = .returned (.tuple #[.pointer none, .int .i64 4]) ∧ Below w0.heap.size w0 w') := by
  obtain ⟨F, ht, h1, h2, h0⟩ := h
  refine (sopen_any ht hn2 hn (by rw [hg.ln]; exact Nat.le_refl _) hg.up (by rw [hg.seen]; exact hg.sz.k)).mono ?_
  rintro e w' (⟨F', sb', L', rfl, hl', ht', hf, hb⟩ | ⟨rfl, hl', hb⟩)
  · exact .inl ⟨sb', L', rfl, ⟨F', ht', h1.fr hf, h2.fr hf, h0.trans (hb.mono h0.size)⟩⟩
  · exact .inr ⟨rfl, h0.trans (hb.mono h0.size)⟩
theorem wh_get (h : Wh w0 V S g D sb jb n L K a la ca A b lb cb B) {T : List Pr} (hT : flat (lfs L) = T) (k : ByteArray) : Calls Tryz.prog 15 #[.pointer (some ⟨sb, 0, none⟩), .string k] V fun e w' => e = .returned (.tuple #[.string ((getT T k).getD ByteArray.empty), .bool (isT T k)]) ∧ Wh w0 w' S g D sb jb n L K a la ca A b lb cb B := by
  obtain ⟨F, ht, h1, h2, h0⟩ := id h
  refine (get_any ht k).mono ?_
  rintro e w' ⟨rfl, hb⟩
  rw [hT]
  exact ⟨rfl, h.below hb⟩
theorem wh_len (h : Wh w0 V S g D sb jb n L K a la ca A b lb cb B) {T : List Pr} (hT : flat (lfs L) = T) : Calls Tryz.prog 23 #[.pointer (some ⟨sb, 0, none⟩)] V fun e w' => e = .returned (.int .i64 (T.length : Int)) ∧ Wh w0 w' S g D sb jb n L K a la ca A b lb cb B := by
  obtain ⟨F, ht, h1, h2, h0⟩ := id h
  refine (len_any ht).mono ?_
  rintro e w' ⟨rfl, hb⟩
  rw [hT]
  exact ⟨rfl, h.below hb⟩
theorem wh_off (h : Wh w0 V S g D sb jb n L K a la ca A b lb cb B) (hu : D.up = false) : Calls Tryz.prog 22 #[.pointer (some ⟨jb, 0, none⟩)] V fun e w' => e = .returned (.tuple #[.pointer none, .int .i64 10]) ∧ Wh w0 w' S g D sb jb n L K a la ca A b lb cb B := by
  obtain ⟨F, ht, h1, h2, h0⟩ := id h
  have hn := ht.n12
  refine (sopen_off ht.disk ht.jat ht.n2 (by omega) hu).mono ?_
  rintro e w' ⟨rfl, hb⟩
  exact ⟨rfl, h.below hb⟩
theorem Wh.facts (h : Wh w0 V S g D sb jb n L K a la ca A b lb cb B) {T : List Pr} (hT : flat (lfs L) = T) : Rise T ∧ (∀ p ∈ T, May p) ∧ T.length ≤ 20000 := by
  obtain ⟨F, ht, h1, h2, h0⟩ := h
  subst hT
  exact ⟨ht.shL.srt, ht.shL.may, ht.total.2⟩
end
/-- Changes of the first pages. -/
def Firsts (i : Nat) (l : List Chi) : Prop := l.map Prod.fst = (List.range i).map (fun k : Nat => (k : Int)) ∧ ∀ c ∈ l, c.2.size = 1024
theorem Firsts.nil : Firsts 0 [] := ⟨rfl, fun c hc => by simp at hc⟩
theorem Firsts.add {i : Nat} {l : List Chi} (h : Firsts i l) {s : ByteArray} (hs : s.size = 1024) : Firsts (i + 1) (l ++ [((i : Int), s)]) := by
  refine ⟨by rw [List.map_append, h.1, List.range_succ, List.map_append]; rfl, fun c hc => ?_⟩
  rcases List.mem_append.1 hc with k | k
  · exact h.2 c k
  · rw [List.mem_singleton] at k
    rw [k]
    exact hs
theorem Firsts.len {i : Nat} {l : List Chi} (h : Firsts i l) : l.length = i := by
  have := congrArg List.length h.1
  simpa using this
theorem Firsts.chk {i n : Nat} {l : List Chi} (h : Firsts i l) (hi : i ≤ n) : chk n l = 0 := by
  unfold Go.Proofs.YtnafalkcgghjgaaGreatDoor.chk
  rw [if_pos, if_pos, if_pos h.2]
  · rw [h.1]
    exact List.Pairwise.map _ (fun a b hab e => hab (by omega)) List.nodup_range
  · intro c hc
    have : c.1 ∈ l.map Prod.fst := List.mem_map_of_mem hc
    rw [h.1] at this
    obtain ⟨k, hk, e⟩ := List.mem_map.1 this
    have := List.mem_range.1 hk
    omega
end Go.Proofs.YtnafalkcgghjgaaGreatDoor
