/- Walks over sizeOf, newLeaf, cut, middle and part. A walk over part. -/
import Derived.Test.YtnafalkcgghjgaaGreatDoorSA
namespace Go.Proofs.YtnafalkcgghjgaaGreatDoor
open Go.RowKit
set_option maxHeartbeats 400000 in
theorem sizeOf_any (p : Pr) (w : World) (h : eSz p ≤ 2000000) : Calls Tryz.prog 90 #[.agg #[.string p.1, .string p.2]] w fun e w' => e = .returned (.int .i64 (eSz p : Int)) ∧ Below w.heap.size w w' := by
  obtain ⟨k, v⟩ := p
  unfold eSz at h ⊢
  simp only at h ⊢
  go_enter Tryz.func90, Tryz.ntmps90
  go_wp2
  go_ret
  refine ⟨ret_int ?_, (Below.refl _ w).alloc (Nat.le_refl _) _⟩
  go_num
set_option maxRecDepth 100000 in
set_option maxHeartbeats 1000000 in
theorem newLeaf_any {G : Nat → Prop} {w : World} (page : Int) (a : Option Addr) (n c : Nat) (es : List Pr) (h : Pw G w a n c es) (hz : szL es ≤ 2000000) :
    Calls Tryz.prog 74 #[.int .i64 page, .slice a n c] w fun e w' => ∃ a', e = .returned (.agg #[.int .i64 page, .slice a' n n, .int .i64 (szL es : Int)]) ∧ Pw G w' a' n n es ∧ Below w.heap.size w w' := by
  have hl := h.len
  have hcap : n ≤ c := h.2.1
  have hcm : c ≤ 9223372036854775807 := by have := h.2.2.1; unfold maxLen at this; omega
  have HP : Hid (Pw G w a n c es) := h
  have hcut := cut_prs a n c n hcap
  have HT : Hid (∀ W, Below w.heap.size w W → Pw G W (cutA a n 0 2) n n es) := fun W hW => by
    have := (HP.out.below hW).take n (Nat.le_refl _)
    rwa [List.take_of_length_le (by omega)] at this
  obtain ⟨W1, hW1⟩ : ∃ W1, w.alloc (.cells #[.int .i64 0, .slice none 0 0, .int .i64 0] 85) = W1 := ⟨_, rfl⟩
  obtain ⟨b, hb⟩ : ∃ b, w.heap.size = b := ⟨_, rfl⟩
  have HI : Hid (W1.heap[b]? = some (.cells #[.int .i64 0, .slice none 0 0, .int .i64 0] 85 (0, 0)) ∧ Below b w W1) := by
    rw [← hW1, ← hb]
    exact ⟨heap_alloc_new w _, (Below.refl _ w).alloc (Nat.le_refl _) _⟩
  rw [hb] at HT
  clear h
  go_enter Tryz.func74, Tryz.ntmps74
  go_wp2
  go_loopw [5, 10] (fun vs vi wr => ∃ i : Nat, i ≤ n ∧ vi = .int .i64 i ∧ vs = .int .i64 (szL (es.take i) : Int) ∧ wr.heap[b]? = some (.cells #[.int .i64 0, .slice none 0 0, .int .i64 0] 85 (0, 0)) ∧ Below b w wr) (fun _ vi _ => n - (intOf vi).toNat)
  case atStart => exact ⟨0, by omega, rfl, rfl, HI.out⟩
  case round =>
    clear HI hW1
    obtain ⟨i, hi, rfl, rfl, hrb, hbel⟩ := hrel
    by_cases hlt : i < n
    · have kk : (i : Int) < (n : Int) := by omega
      have hp : es[i]? = some es[i] := List.getElem?_eq_getElem (by omega)
      obtain ⟨p, hpp⟩ : ∃ p, es[i] = p := ⟨_, rfl⟩
      rw [hpp] at hp
      have hs := sz_take_succ hp
      have hm := szL_mem (List.mem_of_getElem? hp)
      have h2 := sz_take_drop es (i + 1)
      obtain ⟨x, hx⟩ : ∃ x, szL (es.take i) = x := ⟨_, rfl⟩
      obtain ⟨y, hy⟩ : ∃ y, szL (es.take (i + 1)) = y := ⟨_, rfl⟩
      rw [hx, hy] at hs
      rw [hy] at h2
      obtain ⟨b2, o2, rfl, hb2, _, hc2⟩ := (HP.out.below (hbel.mono (by omega))).at (by omega)
      obtain ⟨d1, d2⟩ := hc2 i p hp
      have HSZ : Hid (∀ W, Calls Tryz.prog 90 #[.agg #[.string p.1, .string p.2]] W fun e w' => e = .returned (.int .i64 (eSz p : Int)) ∧ Below W.heap.size W w') := fun W => sizeOf_any p W (by omega)
      have HB : Hid (Below b w wr) := hbel
      have HR : Hid (wr.heap[b]? = some (.cells #[.int .i64 0, .slice none 0 0, .int .i64 0] 85 (0, 0))) := hrb
      obtain ⟨z, hz2⟩ : ∃ z, eSz p = z := ⟨_, rfl⟩
      rw [hz2] at HSZ hs hm
      have hxb : x + z ≤ 2000000 := by omega
      have HY : Hid ((szL (es.take (i + 1)) : Int) = (x : Int) + (z : Int)) := by show _ = _; rw [hy]; omega
      rw [hx]
      have hbw : b ≤ wr.heap.size := by have := hbel.size; omega
      have hbl : b < wr.heap.size := lt_of_some hrb
      clear hbel hrb hc2 hx hy hz2 hpp hp h2 HT hcut
      go_wp2_with fail
      refine (HSZ.out _).mono ?_
      rintro e V ⟨rfl, hV⟩
      have HV : Hid (Below (wr.heap.size + 1) (wr.alloc (.cells #[.string p.1, .string p.2] 63)) V) := (by simpa using hV : Below _ _ _)
      clear hV HSZ
      go_wp2
      refine ⟨⟨i + 1, by omega, by go_num, ?_, ?_, ?_⟩, by simp [intOf]; omega⟩
      · rw [HY.out]
      · rw [HV.out.block b (by omega), Below.heap_alloc _ _ _ (by omega)]; exact HR.out
      · exact (HB.out.alloc hbw _).trans (HV.out.mono (by omega))
    · obtain rfl : i = n := by omega
      have kk : ¬ (i : Int) < (i : Int) := by omega
      rw [List.take_of_length_le (by omega)]
      have HB : Hid (Below b w wr) := hbel
      have c0 : wr.cell? ⟨b, 0, none⟩ = some (.int .i64 0) := by rw [cell_of_row _ b _ _ _ _ hrb]; rfl
      have c1 : wr.cell? ⟨b, 1, none⟩ = some (.slice none 0 0) := by rw [cell_of_row _ b _ _ _ _ hrb]; rfl
      have c2 : wr.cell? ⟨b, 2, none⟩ = some (.int .i64 0) := by rw [cell_of_row _ b _ _ _ _ hrb]; rfl
      have f0 := frozen_of_row wr b 0 _ _ hrb
      have f1 := frozen_of_row wr b 1 _ _ hrb
      have f2 := frozen_of_row wr b 2 _ _ hrb
      clear hrb hbel
      go_wp2
      refine bodyPost_ret (v := .agg #[.int .i64 page, .slice (cutA a i 0 2) i i, .int .i64 (szL es : Int)]) ?_ rfl ⟨_, rfl, ?_, ?_⟩
      · simp [results, go_sem, c0, c1, c2]
      · exact HT.out _ (((HB.out.setCell (Nat.le_refl _) _).setCell (Nat.le_refl _) _).setCell (Nat.le_refl _) _)
      · first | exact (((HB.out.setCell (Nat.le_refl _) _).setCell (Nat.le_refl _) _).setCell (Nat.le_refl _) _) | (rw [hb]; exact (((HB.out.setCell (Nat.le_refl _) _).setCell (Nat.le_refl _) _).setCell (Nat.le_refl _) _))
theorem newLeaf_h {G : Nat → Prop} {w0 w : World} (h0 : Below w0.heap.size w0 w) (page : Int) (a : Option Addr) (n c : Nat) (es : List Pr) (h : Pw G w a n c es) (hz : szL es ≤ 2000000) :
    Calls Tryz.prog 74 #[.int .i64 page, .slice a n c] w fun e w' => ∃ a', e = .returned (.agg #[.int .i64 page, .slice a' n n, .int .i64 (szL es : Int)]) ∧ Pw G w' a' n n es ∧ Below w.heap.size w w' ∧ Below w0.heap.size w0 w' := by
  refine (newLeaf_any page a n c es h hz).mono ?_
  rintro e w' ⟨a', h1, h2, h3⟩
  exact ⟨a', h1, h2, h3, h0.trans (h3.mono h0.size)⟩
set_option maxHeartbeats 400000 in
theorem cut_any (a : Option Addr) (n c i : Nat) (w : World) (hi : i ≤ n) (hn : n ≤ c) :
    Calls Tryz.prog 40 #[.slice a n c, .int .i64 (i : Int)] w fun e w' => e = .returned (.tuple #[.slice (cutA a i 0 2) i i, .slice (cutA a c i 2) (n - i) (c - i)]) ∧ Below w.heap.size w w' := by
  have h1 := cut_prs a n c i (by omega)
  have h2 := off_prs a n c i hi
  go_enter Tryz.func40, Tryz.ntmps40
  go_wp2
  go_region
  go_wp2
  go_ret2
  exact ⟨rfl, (Below.refl _ _).drew⟩
set_option maxRecDepth 100000 in
set_option maxHeartbeats 2000000 in
theorem middle_any {G : Nat → Prop} {w : World} (page : Int) (a : Option Addr) (n : Nat) (es : List Pr) (h : Pw G w a n n es) (h1 : 1024 ≤ szL es) (h2 : szL es ≤ 1490) (h3 : ∀ p ∈ es, eSz p ≤ 467) :
    Calls Tryz.prog 98 #[.agg #[.int .i64 page, .slice a n n, .int .i64 (szL es : Int)]] w fun e w' => ∃ m : Nat, e = .returned (.int .i64 (m : Int)) ∧ m ≤ n ∧ szL (es.take m) ≤ 1023 ∧ szL (es.drop m) ≤ 1023 ∧ Below w.heap.size w w' := by
  have hl := h.len
  have hcm : n ≤ 9223372036854775807 := by have := h.2.2.1; unfold maxLen at this; omega
  have HP : Hid (Pw G w a n n es) := h
  obtain ⟨S, hS⟩ : ∃ S, szL es = S := ⟨_, rfl⟩
  rw [hS] at h1 h2 ⊢
  have H3 : Hid (∀ p ∈ es, eSz p ≤ 467) := h3
  have HS : Hid (szL es = S) := hS
  obtain ⟨b, hb⟩ : ∃ b, w.heap.size = b := ⟨_, rfl⟩
  obtain ⟨W1, hW1⟩ : ∃ W1, w.alloc (.cells #[.int .i64 page, .slice a n n, .int .i64 (S : Int)] 85) = W1 := ⟨_, rfl⟩
  have HI : Hid (W1.heap[b]? = some (.cells #[.int .i64 page, .slice a n n, .int .i64 (S : Int)] 85 (0, 0)) ∧ Below b w W1) := by
    rw [← hW1, ← hb]
    exact ⟨heap_alloc_new w _, (Below.refl _ w).alloc (Nat.le_refl _) _⟩
  have hn0 : 0 < n := by
    rcases Nat.eq_zero_or_pos n with e | e
    · rw [e] at hl
      have := List.eq_nil_of_length_eq_zero hl
      rw [this] at hS
      simp [szL] at hS
      omega
    · exact e
  obtain ⟨b2, o2, rfl, hb2, _, hc2⟩ := h.at hn0
  have HC : Hid (∀ W, Below b w W → ∀ i p, es[i]? = some p → W.cell? ⟨b2, o2 + i * 2, none⟩ = some (.string p.1) ∧ W.cell? ⟨b2, o2 + i * 2 + 1, none⟩ = some (.string p.2)) := fun W hW i p hp => by
    rw [hW.cell (p := ⟨b2, _, none⟩) (by show b2 < b; omega), hW.cell (p := ⟨b2, _, none⟩) (by show b2 < b; omega)]
    exact hc2 i p hp
  clear h hc2 hS h3
  go_enter Tryz.func98, Tryz.ntmps98
  go_wp2
  go_loopw [3, 4] (fun vi vs wr => ∃ i : Nat, i ≤ n ∧ vi = .int .i64 i ∧ vs = .int .i64 (szL (es.take i) : Int) ∧ (0 < i → 2 * szL (es.take (i - 1)) < S) ∧ wr.heap[b]? = some (.cells #[.int .i64 page, .slice (some ⟨b2, o2, none⟩) n n, .int .i64 (S : Int)] 85 (0, 0)) ∧ Below b w wr) (fun vi _ _ => n - (intOf vi).toNat)
  case atStart => exact ⟨0, by omega, rfl, rfl, fun h => absurd h (by omega), HI.out⟩
  case round =>
    clear HI hW1
    obtain ⟨i, hi, rfl, rfl, hlo, hrb, hbel⟩ := hrel
    obtain ⟨x, hx⟩ : ∃ x, szL (es.take i) = x := ⟨_, rfl⟩
    have hsum := sz_take_drop es i
    rw [hx, HS.out] at hsum
    rw [hx]
    have c1 : wr.cell? ⟨b, 1, none⟩ = some (.slice (some ⟨b2, o2, none⟩) n n) := by rw [cell_of_row _ b _ _ _ _ hrb]; rfl
    have c2 : wr.cell? ⟨b, 2, none⟩ = some (.int .i64 (S : Int)) := by rw [cell_of_row _ b _ _ _ _ hrb]; rfl
    have hxb : x ≤ 1490 := by omega
    by_cases hlt : 2 * x < S
    · have kk : 2 * (x : Int) < (S : Int) := by omega
      have hin : i < n := by
        rcases Nat.lt_or_ge i n with h | h
        · exact h
        · rw [List.take_of_length_le (by omega), HS.out] at hx; omega
      have hin' : (i : Int) < (n : Int) := by omega
      have hp : es[i]? = some es[i] := List.getElem?_eq_getElem (by omega)
      obtain ⟨p, hpp⟩ : ∃ p, es[i] = p := ⟨_, rfl⟩
      rw [hpp] at hp
      have hs := sz_take_succ hp
      rw [hx] at hs
      have hm := H3.out p (List.mem_of_getElem? hp)
      obtain ⟨d1, d2⟩ := HC.out wr hbel i p hp
      have HSZ : Hid (∀ W, Calls Tryz.prog 90 #[.agg #[.string p.1, .string p.2]] W fun e w' => e = .returned (.int .i64 (eSz p : Int)) ∧ Below W.heap.size W w') := fun W => sizeOf_any p W (by omega)
      obtain ⟨z, hz2⟩ : ∃ z, eSz p = z := ⟨_, rfl⟩
      rw [hz2] at HSZ hs hm
      have HB : Hid (Below b w wr) := hbel
      have HR : Hid (wr.heap[b]? = some (.cells #[.int .i64 page, .slice (some ⟨b2, o2, none⟩) n n, .int .i64 (S : Int)] 85 (0, 0))) := hrb
      have HY : Hid ((szL (es.take (i + 1)) : Int) = (x : Int) + (z : Int)) := by show _ = _; rw [hs]; omega
      have HX : Hid (2 * szL (es.take i) < S) := by show _ < _; rw [hx]; exact hlt
      have hbl : b < wr.heap.size := lt_of_some hrb
      clear hbel hrb hx hz2 hpp hp hlo hs hlt hsum
      go_wp2_with fail
      refine (HSZ.out _).mono ?_
      rintro e V ⟨rfl, hV⟩
      have HV : Hid (Below wr.heap.size wr V) := hV
      clear hV HSZ
      go_wp2
      refine ⟨⟨i + 1, by omega, by go_num, ?_, fun _ => by rw [Nat.add_sub_cancel]; exact HX.out, ?_, ?_⟩, by simp [intOf]; omega⟩
      · rw [HY.out]
      · rw [HV.out.block b hbl]; exact HR.out
      · exact HB.out.trans (HV.out.mono (by omega))
    · have kk : ¬ 2 * (x : Int) < (S : Int) := by omega
      have hi0 : 0 < i := by
        rcases Nat.eq_zero_or_pos i with e | e
        · rw [e] at hx; simp [szL] at hx; omega
        · exact e
      have hlo := hlo hi0
      have hp : es[i - 1]? = some es[i - 1] := List.getElem?_eq_getElem (by omega)
      obtain ⟨p, hpp⟩ : ∃ p, es[i - 1] = p := ⟨_, rfl⟩
      rw [hpp] at hp
      have hs := sz_take_succ hp
      rw [show i - 1 + 1 = i by omega, hx] at hs
      have hm := H3.out p (List.mem_of_getElem? hp)
      obtain ⟨d1, d2⟩ := HC.out wr hbel (i - 1) p hp
      obtain ⟨q, hq⟩ : ∃ q, i = q + 1 := ⟨i - 1, by omega⟩
      subst hq
      rw [Nat.add_sub_cancel] at d1 d2 hs hlo hp
      have hsum2 := sz_take_drop es q
      rw [HS.out] at hsum2
      have HSZ : Hid (∀ W, Calls Tryz.prog 90 #[.agg #[.string p.1, .string p.2]] W fun e w' => e = .returned (.int .i64 (eSz p : Int)) ∧ Below W.heap.size W w') := fun W => sizeOf_any p W (by omega)
      obtain ⟨z, hz2⟩ : ∃ z, eSz p = z := ⟨_, rfl⟩
      rw [hz2] at HSZ hs hm
      obtain ⟨y, hy⟩ : ∃ y, szL (es.take q) = y := ⟨_, rfl⟩
      rw [hy] at hs hlo hsum2
      have hpart := parted (S := S) (A := x) (last := z) h2 hm (by omega) (by omega) (by omega) (by omega)
      have HB : Hid (Below b w wr) := hbel
      have HR : Hid (wr.heap[b]? = some (.cells #[.int .i64 page, .slice (some ⟨b2, o2, none⟩) n n, .int .i64 (S : Int)] 85 (0, 0))) := hrb
      have HF : Hid (szL (es.take q) = y ∧ szL (es.drop q) + y = S ∧ szL (es.take (q + 1)) = x ∧ szL (es.drop (q + 1)) + x = S) := ⟨hy, by omega, hx, by omega⟩
      have hbl : b < wr.heap.size := lt_of_some hrb
      have kq : (q : Int) < (n : Int) := by omega
      have kx : (x : Int) = (y : Int) + (z : Int) := by omega
      clear hbel hrb hx hz2 hpp hp hsum hsum2 hy
      go_wp2_with fail
      refine (HSZ.out _).mono ?_
      rintro e V ⟨rfl, hV⟩
      have HV : Hid (Below wr.heap.size wr V) := hV
      have e1 : V.cell? ⟨b, 2, none⟩ = some (.int .i64 (S : Int)) := by rw [hV.cell (p := ⟨b, 2, none⟩) hbl]; exact c2
      clear hV HSZ
      by_cases hc : (S : Int) - ((x : Int) - (z : Int)) < (x : Int)
      · rw [if_pos (by omega)] at hpart
        go_wp2
        go_ret
        refine ⟨q, ret_int (by go_num), by omega, by have := HF.out; omega, by have := HF.out; omega, ?_⟩
        first | exact HB.out.trans (HV.out.mono (by omega)) | (rw [hb]; exact HB.out.trans (HV.out.mono (by omega)))
      · rw [if_neg (by omega)] at hpart
        go_wp2
        go_ret
        refine ⟨q + 1, ret_int (by go_num), by omega, by have := HF.out; omega, by have := HF.out; omega, ?_⟩
        first | exact HB.out.trans (HV.out.mono (by omega)) | (rw [hb]; exact HB.out.trans (HV.out.mono (by omega)))
end Go.Proofs.YtnafalkcgghjgaaGreatDoor
namespace Go.Proofs.YtnafalkcgghjgaaGreatDoor
open Go.RowKit
theorem alloc_second (V : World) (o o' : Obj) : ((V.alloc o).alloc o').heap[V.heap.size + 1]? = some o' := by
  have h := heap_alloc_new (V.alloc o) o'
  rwa [show (V.alloc o).heap.size = V.heap.size + 1 by simp] at h
/-- A row of leaves that was made just now. -/
theorem Lw.made {G : Nat → Prop} {w : World} {g : Nat} {Q : List Mf} (hg : w.heap[g]? = some (.cells (mfV Q).toArray 85 (0, 0))) (hG : G g) (he : Ents G w Q) (hN : Q.length ≤ 1000000) : Lw G w (some ⟨g, 0, none⟩) Q.length Q.length Q := by
  refine ⟨⟨by rw [mfV_len], Nat.le_refl _, by unfold maxLen; omega, fun _ => ⟨g, 0, rfl, ⟨_, _, hg⟩, hG, fun j u hu => ?_⟩⟩, he⟩
  rw [Nat.zero_add, cell_of_row _ g _ _ _ _ hg]
  simpa using hu
structure Parted (G : Nat → Prop) (w' : World) (page : Int) (es : List Pr) (g : Nat) (Q : List Mf) : Prop where
  lw : Lw G w' (some ⟨g, 0, none⟩) Q.length Q.length Q
  fl : flat (lfs Q) = es
  pg : (lfs Q).map Lf.page = [page] ∨ (lfs Q).map Lf.page = [page, -1]
  sz : ∀ x ∈ lfs Q, x.sz ≤ 1023
  ln : Q.length = 1 ∨ Q.length = 2
  one : szL es ≤ 1023 → Q.length = 1
set_option maxRecDepth 100000 in
set_option maxHeartbeats 2000000 in
theorem part_any {G : Nat → Prop} {w : World} (hG : ∀ x, w.heap.size ≤ x → G x) (page : Int) (a : Option Addr) (n c : Nat) (es : List Pr) (h : Pw G w a n c es) (h2 : szL es ≤ 1490) (h3 : ∀ p ∈ es, eSz p ≤ 467) :
    Calls Tryz.prog 69 #[.int .i64 page, .slice a n c] w fun e w' => ∃ g Q, e = .returned (.slice (some ⟨g, 0, none⟩) Q.length Q.length) ∧ Parted G w' page es g Q ∧ Below w.heap.size w w' := by
  have hl := h.len
  have hcap : n ≤ c := h.2.1
  have HN := newLeaf_any page a n c es h (by omega)
  have HP : Hid (Pw G w a n c es) := h
  obtain ⟨S, hS⟩ : ∃ S, szL es = S := ⟨_, rfl⟩
  rw [hS] at HN h2
  have HS : Hid (szL es = S) := hS
  have HG : Hid (∀ x, w.heap.size ≤ x → G x) := hG
  have H3 : Hid (∀ p ∈ es, eSz p ≤ 467) := h3
  clear h hS hG h3
  by_cases hle : S ≤ 1023
  · have kk : (S : Int) ≤ 1023 := by omega
    go_enter Tryz.func69, Tryz.ntmps69
    go_wp2_with fail
    refine HN.mono ?_
    rintro e V ⟨a', rfl, hp, hb⟩
    have HV : Hid (Pw G V a' n n es ∧ Below w.heap.size w V) := ⟨hp, hb⟩
    clear HN hp hb
    go_wp2
    go_ret
    refine ⟨_, [⟨page, es, a'⟩], ret_val rfl, ?_, ?_⟩
    · have hB : Below V.heap.size V ((V.alloc (.cells #[.int .i64 page, .slice a' n n, .int .i64 (S : Int)] 85)).alloc (.cells #[.int .i64 page, .slice a' n n, .int .i64 (S : Int)] 85)) := ((Below.refl _ V).alloc (Nat.le_refl _) _).alloc (by simp) _
      refine ⟨Lw.made ?_ (HG.out _ (by have := HV.out.2.size; simp; omega)) ?_ (by simp), by simp [lfs, flat, Mf.lf], .inl (by simp [lfs, Mf.lf]), ?_, .inl rfl, fun _ => rfl⟩
      · have e : (mfV [⟨page, es, a'⟩]).toArray = #[.int .i64 page, .slice a' n n, .int .i64 (S : Int)] := by simp [mfV, mfC, hl, HS.out]
        rw [e]
        exact alloc_second _ _ _
      · intro m hm
        simp only [List.mem_singleton] at hm
        subst hm
        have := HV.out.1.below hB
        simp only
        rw [hl]
        exact this
      · intro x hx
        simp only [lfs, List.map_cons, List.map_nil, List.mem_singleton] at hx
        rw [hx]
        show szL es ≤ 1023
        rw [HS.out]; exact hle
    · have hB : Below V.heap.size V ((V.alloc (.cells #[.int .i64 page, .slice a' n n, .int .i64 (S : Int)] 85)).alloc (.cells #[.int .i64 page, .slice a' n n, .int .i64 (S : Int)] 85)) := ((Below.refl _ V).alloc (Nat.le_refl _) _).alloc (by simp) _
      exact HV.out.2.trans (hB.mono HV.out.2.size)
  · have kk : ¬ (S : Int) ≤ 1023 := by omega
    go_enter Tryz.func69, Tryz.ntmps69
    go_wp2_with fail
    refine HN.mono ?_
    rintro e V ⟨a', rfl, hp, hb⟩
    obtain ⟨V1, hV1⟩ : ∃ V1, V.alloc (.cells #[.int .i64 page, .slice a' n n, .int .i64 (S : Int)] 85) = V1 := ⟨_, rfl⟩
    have hb1 : Below w.heap.size w V1 := by rw [← hV1]; exact hb.alloc hb.size _
    have hp1 : Pw G V1 a' n n es := by rw [← hV1]; exact hp.below ((Below.refl _ V).alloc (Nat.le_refl _) _)
    have HM := middle_any page a' n es hp1 (by rw [HS.out]; omega) (by rw [HS.out]; omega) H3.out
    rw [HS.out] at HM
    have HB1 : Hid (Below w.heap.size w V1) := hb1
    clear HN hp hb hp1 hb1
    have cl : V1.cell? ⟨V.heap.size, 0, none⟩ = some (.int .i64 page) ∧ V1.cell? ⟨V.heap.size, 1, none⟩ = some (.slice a' n n) ∧ V1.cell? ⟨V.heap.size, 2, none⟩ = some (.int .i64 (S : Int)) := by
      have hr : V1.heap[V.heap.size]? = some (.cells #[.int .i64 page, .slice a' n n, .int .i64 (S : Int)] 85 (0, 0)) := by rw [← hV1]; exact heap_alloc_new V _
      refine ⟨?_, ?_, ?_⟩ <;> rw [cell_of_row _ _ _ _ _ _ hr] <;> rfl
    obtain ⟨cl0, cl1, cl2⟩ := cl
    go_wp2_with fail
    refine HM.mono ?_
    rintro e V2 ⟨m, rfl, hm, hs1, hs2, hb2⟩
    have HB2 : Hid (Below w.heap.size w V2) := HB1.out.trans (hb2.mono HB1.out.size)
    have HCU := cut_any a n c m V2 hm hcap
    have HS2 : Hid (szL (es.take m) ≤ 1023 ∧ szL (es.drop m) ≤ 1023) := ⟨hs1, hs2⟩
    clear HM hb2 hs1 hs2
    go_wp2_with fail
    refine HCU.mono ?_
    rintro e V3 ⟨rfl, hb3⟩
    have HB3 : Hid (Below w.heap.size w V3) := HB2.out.trans (hb3.mono HB2.out.size)
    have HN1 := newLeaf_any page _ _ _ _ ((HP.out.below HB3.out).take m hm) (by have := HS2.out; omega)
    obtain ⟨x1, hx1⟩ : ∃ x, szL (es.take m) = x := ⟨_, rfl⟩
    obtain ⟨x2, hx2⟩ : ∃ x, szL (es.drop m) = x := ⟨_, rfl⟩
    rw [hx1] at HN1
    clear HCU hb3
    go_wp2_with fail
    refine HN1.mono ?_
    rintro e V4 ⟨a1, rfl, hp4, hb4⟩
    have HB4 : Hid (Below w.heap.size w V4) := HB3.out.trans (hb4.mono HB3.out.size)
    have HN2 := newLeaf_any (-1) _ _ _ _ ((HP.out.below HB4.out).drop m hm) (by have := HS2.out; omega)
    rw [hx2] at HN2
    have HP4 : Hid (Pw G V4 a1 m m (es.take m)) := hp4
    clear HN1 hb4 hp4
    go_wp2_with fail
    refine HN2.mono ?_
    rintro e V5 ⟨a2, rfl, hp5, hb5⟩
    have HB5 : Hid (Below w.heap.size w V5) := HB4.out.trans (hb5.mono HB4.out.size)
    have HP5 : Hid (Pw G V5 a2 (n - m) (n - m) (es.drop m) ∧ Pw G V5 a1 m m (es.take m)) := ⟨hp5, HP4.out.below hb5⟩
    have HX : Hid (szL (es.take m) = x1 ∧ szL (es.drop m) = x2) := ⟨hx1, hx2⟩
    clear HN2 hb5 hp5 hx1 hx2
    go_wp2
    go_ret
    have hB : Below V5.heap.size V5 (V5.alloc (.cells #[.int .i64 page, .slice a1 m m, .int .i64 (x1 : Int), .int .i64 (-1), .slice a2 (n - m) (n - m), .int .i64 (x2 : Int)] 85)) := (Below.refl _ V5).alloc (Nat.le_refl _) _
    refine ⟨_, [⟨page, es.take m, a1⟩, ⟨-1, es.drop m, a2⟩], ret_val rfl, ?_, ?_⟩
    · refine ⟨Lw.made ?_ (HG.out _ (by have := HB5.out.size; omega)) ?_ (by simp), by simp [lfs, flat, Mf.lf], .inr (by simp [lfs, Mf.lf]), ?_, .inr rfl, fun h => by rw [HS.out] at h; omega⟩
      · have e : (mfV [⟨page, es.take m, a1⟩, ⟨-1, es.drop m, a2⟩]).toArray = #[.int .i64 page, .slice a1 m m, .int .i64 (x1 : Int), .int .i64 (-1), .slice a2 (n - m) (n - m), .int .i64 (x2 : Int)] := by
          simp [mfV, mfC, HX.out.1, HX.out.2, hl, Nat.min_eq_left hm]
        rw [e]
        exact heap_alloc_new _ _
      · intro x hx
        simp only [List.mem_cons, List.not_mem_nil, or_false] at hx
        rcases hx with rfl | rfl
        · have := HP5.out.2.below hB
          have e : (es.take m).length = m := by rw [List.length_take]; omega
          simp only
          rw [e]
          exact this
        · have := HP5.out.1.below hB
          have e : (es.drop m).length = n - m := by rw [List.length_drop]; omega
          simp only
          rw [e]
          exact this
      · intro x hx
        simp only [lfs, List.map_cons, List.map_nil, List.mem_cons, List.not_mem_nil, or_false] at hx
        have := HS2.out
        rcases hx with rfl | rfl
        · exact this.1
        · exact this.2
    · exact HB5.out.trans (hB.mono HB5.out.size)
end Go.Proofs.YtnafalkcgghjgaaGreatDoor
