/- Walks over the document's Blocks, the program's Signs, and lives. -/
import Derived.Test.YtbhnmjjfammlkaaDoorGD
namespace Go.Proofs.YtbhnmjjfammlkaaDoor
open Go.RowKit
set_option maxRecDepth 100000 in
set_option maxHeartbeats 1000000 in
theorem refblocks_any (t : ByteArray) (x : Int) (w : World) (hx : t.size ≤ 9223372036854775807) : Calls Tryd.prog 38 #[.string t, .int .i64 x] w fun e w' => BlTo w (blocksF t x) e w' := by
  by_cases h1 : x < 1
  · have hF : blocksF t x = ([], 9) := by unfold blocksF; rw [if_pos (.inl h1)]
    rw [hF]
    go_enter Tryd.func38, Tryd.ntmps38
    go_wp2
    refine bodyPost_ret (v := .tuple #[.slice none 0 0, .int .i64 9]) ?_ rfl ⟨none, 0, 0, rfl, World.ownsRow_nil _ _ _ _, Below.refl _ _⟩
    simp [results, go_sem]
  · by_cases h2 : 128 < x
    · have hF : blocksF t x = ([], 9) := by unfold blocksF; rw [if_pos (.inr h2)]
      rw [hF]
      go_enter Tryd.func38, Tryd.ntmps38
      go_wp2
      refine bodyPost_ret (v := .tuple #[.slice none 0 0, .int .i64 9]) ?_ rfl ⟨none, 0, 0, rfl, World.ownsRow_nil _ _ _ _, Below.refl _ _⟩
      simp [results, go_sem]
    · by_cases h3 : 1024 < t.size
      · have hF : blocksF t x = ([], 2) := by unfold blocksF; rw [if_neg (by omega), if_pos h3]
        rw [hF]
        have h3' : (1024 : Int) < (t.size : Int) := by omega
        go_enter Tryd.func38, Tryd.ntmps38
        go_wp2
        refine bodyPost_ret (v := .tuple #[.slice none 0 0, .int .i64 2]) ?_ rfl ⟨none, 0, 0, rfl, World.ownsRow_nil _ _ _ _, Below.refl _ _⟩
        simp [results, go_sem]
      · have hF : blocksF t x = (blocksL t x.toNat, 0) := by unfold blocksF; rw [if_neg (by omega), if_neg h3]
        obtain ⟨z, hz⟩ : ∃ z : Nat, x = (z : Int) := ⟨x.toNat, by omega⟩
        subst hz
        rw [hF]
        have h3' : ¬ (1024 : Int) < (t.size : Int) := by omega
        have h1' : ¬ (z : Int) < 1 := by omega
        have h2' : ¬ (128 : Int) < (z : Int) := by omega
        obtain ⟨B, hB⟩ : ∃ B, w.heap.size = B := ⟨_, rfl⟩
        clear hF h1 h2
        go_enter Tryd.func38, Tryd.ntmps38
        go_wp2
        go_loopw [6, 7] (fun vl vp wr => ∃ (i p lc : Nat) (la : Option Addr), i * z = p ∧ i ≤ p ∧ p < t.size + z ∧ vp = .int .i64 p ∧ vl = .slice la i lc ∧ wr.ownsRow B 9 1 (.slice la i lc) i (stR ((List.range i).map (blk t z))) ∧ Below w.heap.size w wr) (fun _ vp _ => t.size - (intOf vp).toNat)
        case atStart => exact ⟨0, 0, 0, none, by omega, by omega, by omega, rfl, rfl, World.ownsRow_nil _ _ _ _, Below.refl _ _⟩
        case round =>
          obtain ⟨i, p, lc, la, hip, hile, hpl, rfl, rfl, hown, hbw⟩ := hrel
          by_cases hlt : p < t.size
          · have kk : (p : Int) < (t.size : Int) := by omega
            obtain ⟨q, hq⟩ : ∃ q, p + z = q := ⟨_, rfl⟩
            have kq : (p : Int) + (z : Int) = (q : Int) := by omega
            obtain ⟨m, hm⟩ : ∃ m, min q t.size = m := ⟨_, rfl⟩
            have hm1 : (p : Int) ≤ (m : Int) := by omega
            have hm2 : (m : Int) ≤ (t.size : Int) := by omega
            obtain ⟨s, hs⟩ : ∃ s, t.extract p m = s := ⟨_, rfl⟩
            have HST : Hid ((List.range (i + 1)).map (blk t z) = (List.range i).map (blk t z) ++ [s]) := by
              show _ = _
              rw [range_next]
              unfold blk
              rw [hip, hq, hm, hs]
            obtain ⟨V4, hV4⟩ : ∃ V4, wr.alloc (.cells #[.string s] 9) = V4 := ⟨_, rfl⟩
            have hB4 : Below wr.heap.size wr V4 := by rw [← hV4]; exact (Below.refl _ wr).alloc (Nat.le_refl _) _
            have r4 : V4.heap[wr.heap.size]? = some (.cells #[.string s] 9 (0, 0)) := by rw [← hV4]; exact heap_alloc_new wr _
            have hBw : B ≤ wr.heap.size := by rw [← hB]; exact hbw.size
            have ho4 := own_keep hown (W' := V4) (fun k hk => hB4.block k (hown.lt k hk).2)
            obtain ⟨aA, cA, VA, hrA, hoA, hgA, _⟩ := addT_own V4 ho4 (txtRow r4) (by omega) (Nat.le_trans hBw hB4.size)
            have HE : Hid (VA.ownsRow B 9 1 (.slice aA (i + 1) cA) (i + 1) (stR ((List.range i).map (blk t z) ++ [s])) ∧ Below w.heap.size w VA) := by
              refine ⟨hoA, (hbw.trans (hB4.mono hbw.size)).grown hgA (Nat.le_trans hbw.size hB4.size) (fun k hk => ?_)⟩
              have := (ho4.lt k (by rw [ob_slice]; exact hk)).1
              omega
            have HQ : Hid ((i + 1) * z = q ∧ i + 1 ≤ q ∧ q < t.size + z ∧ t.size - q < t.size - p) := ⟨by rw [Nat.succ_mul, hip, hq], by omega, by omega, by omega⟩
            obtain ⟨d, hd⟩ : ∃ d, t.size - p = d := ⟨_, rfl⟩
            have kd : (t.size : Int) - (p : Int) = (d : Int) := by omega
            clear hown hbw hB4 r4 ho4 hoA hgA hBw hip
            by_cases hdz : d < z
            · have kz : (d : Int) < (z : Int) := by omega
              obtain rfl : m = t.size := by omega
              clear hm hq hd
              go_wp2_with ((at_builtin; refine wpList_app V4 rfl _ _ _ _ rfl rfl rfl (hrA _) ?_))
              refine ⟨⟨i + 1, q, cA, aA, HQ.out.1, HQ.out.2.1, HQ.out.2.2.1, by go_num, by go_num, ?_, HE.out.2⟩, by simp [intOf]; have := HQ.out.2.2.2; omega⟩
              rw [HST.out]
              exact HE.out.1
            · have kz : ¬ (d : Int) < (z : Int) := by omega
              obtain rfl : m = q := by omega
              clear hm hd hq
              go_wp2_with ((at_builtin; refine wpList_app V4 rfl _ _ _ _ rfl rfl rfl (hrA _) ?_))
              refine ⟨⟨i + 1, m, cA, aA, HQ.out.1, HQ.out.2.1, HQ.out.2.2.1, by go_num, by go_num, ?_, HE.out.2⟩, by simp [intOf]; have := HQ.out.2.2.2; omega⟩
              rw [HST.out]
              exact HE.out.1
          · have kk : ¬ (p : Int) < (t.size : Int) := by omega
            have HE : Hid (wr.ownsRow B 9 1 (.slice la i lc) i (stR (blocksL t z)) ∧ Below w.heap.size w wr) := ⟨by unfold blocksL; rw [nbl_of (k := i) (by omega) (by omega)]; exact hown, hbw⟩
            clear hown hbw hip
            go_wp2
            refine bodyPost_ret (v := .tuple #[.slice la i lc, .int .i64 0]) ?_ rfl ⟨la, i, lc, rfl, by rw [hB]; exact HE.out.1, HE.out.2⟩
            simp [results, go_sem]
/-- What Signs leaves. -/
def SgTo (w : World) (l : List Sg) (er : Int) (e : Ending) (w' : World) : Prop := ∃ (a : Option Addr) (n c : Nat), e = .returned (.tuple #[.slice a n c, .int .i64 er]) ∧ w'.ownsRow w.heap.size 65 2 (.slice a n c) n (sgR l) ∧ Below w.heap.size w w'
theorem blocks_few (t : ByteArray) (x : Int) : (blocksF t x).1.length ≤ 1024 := by
  unfold blocksF
  split
  · simp
  · split
    · simp
    · rename_i h1 h2
      simp only [blocksL, List.length_map, List.length_range]
      unfold nBl
      refine Nat.lt_succ_iff.1 ((Nat.div_lt_iff_lt_mul (by omega)).2 ?_)
      have : 1025 * 1 ≤ 1025 * x.toNat := Nat.mul_le_mul_left _ (by omega)
      rw [Nat.succ_mul]
      have : 1024 * 1 ≤ 1024 * x.toNat := Nat.mul_le_mul_left _ (by omega)
      omega
theorem blocks_size {t : ByteArray} {x : Int} {s : ByteArray} (h : s ∈ (blocksF t x).1) : s.size ≤ 128 := by
  unfold blocksF at h
  split at h
  · cases h
  · split at h
    · cases h
    · rename_i h1 h2
      obtain ⟨i, _, rfl⟩ := List.mem_map.1 h
      unfold blk
      rw [ByteArray.size_extract]
      omega
set_option maxRecDepth 100000 in
set_option maxHeartbeats 2000000 in
theorem signs_any (k t : ByteArray) (x : Int) (w : World) (hk : k.size ≤ 1000000) (hx : t.size ≤ 9223372036854775807) (hL : Laid w) : Calls Tryd.prog 18 #[.string k, .string t, .int .i64 x] w fun e w' => SgTo w ((blocksF t x).1.map (sgOf k)) (blocksF t x).2 e w' := by
  have HB := blocks_any t x w hx
  have hfew := blocks_few t x
  have HSZ : Hid (∀ s ∈ (blocksF t x).1, s.size ≤ 128) := fun s hs => blocks_size hs
  have HNE : Hid ((blocksF t x).2 ≠ 0 → (blocksF t x).1 = []) := fun h => by
    unfold blocksF at h ⊢
    split
    · rfl
    · split
      · rfl
      · rename_i h1 h2
        rw [if_neg h1, if_neg h2] at h
        exact absurd rfl h
  obtain ⟨⟨bl, er⟩, hbl⟩ : ∃ r, blocksF t x = r := ⟨_, rfl⟩
  rw [hbl] at HB hfew HSZ HNE ⊢
  simp only at hfew HSZ HNE ⊢
  have HL : Hid (Laid w) := hL
  clear hbl hL
  go_enter Tryd.func18, Tryd.ntmps18
  go_wp2_with fail
  refine HB.mono ?_
  intro e V hV
  obtain ⟨ba, bn, bc, rfl, htw, hb1⟩ := hV.tw
  have HT : Hid (Tw (fun _ => True) V ba bn bc bl ∧ Below w.heap.size w V) := ⟨htw, hb1⟩
  have hlen := htw.len
  obtain ⟨B, hB⟩ : ∃ B, V.heap.size = B := ⟨_, rfl⟩
  simp only at hlen
  clear HB hV htw hb1
  by_cases h0 : er = 0
  · subst h0
    go_wp2
    go_loopw [10, 24] (fun vl vi wr => ∃ (i lc : Nat) (la : Option Addr), i ≤ bn ∧ vi = .int .i64 i ∧ vl = .slice la i lc ∧ wr.ownsRow B 65 2 (.slice la i lc) i (sgR ((bl.take i).map (sgOf k))) ∧ Below V.heap.size V wr) (fun _ vi _ => bn - (intOf vi).toNat)
    case atStart => exact ⟨0, 0, none, by omega, rfl, rfl, World.ownsRow_nil _ _ _ _, Below.refl _ _⟩
    case round =>
      obtain ⟨i, lc, la, hi, rfl, rfl, hown, hbw⟩ := hrel
      have hbw0 : Below w.heap.size w wr := HT.out.2.trans (hbw.mono HT.out.2.size)
      by_cases hlt : i < bn
      · have kk : (i : Int) < (bn : Int) := by omega
        obtain ⟨tb, to, rfl, _, hc⟩ := (HT.out.1.below hbw).at (by omega)
        obtain ⟨s, hs⟩ : ∃ s, bl[i]? = some s := ⟨_, List.getElem?_eq_getElem (by omega)⟩
        have c0 := hc i s hs
        have HO := one_any k s wr hk (by have := HSZ.out s (List.mem_of_getElem? hs); omega) (HL.out.below hbw0)
        obtain ⟨⟨g1, g2⟩, hg⟩ : ∃ g, sgOf k s = g := ⟨_, rfl⟩
        rw [hg] at HO
        simp only at HO
        have HST : Hid ((bl.take (i + 1)).map (sgOf k) = (bl.take i).map (sgOf k) ++ [(g1, g2)]) := by
          show _ = _
          rw [take_snoc hs, List.map_append, List.map_cons, hg]
          rfl
        have HOW : Hid (wr.ownsRow B 65 2 (.slice la i lc) i (sgR ((bl.take i).map (sgOf k))) ∧ Below V.heap.size V wr ∧ Below w.heap.size w wr) := ⟨hown, hbw, hbw0⟩
        clear hown hbw hbw0 hc hs hg
        go_wp2_with fail
        refine HO.mono ?_
        rintro e V3 ⟨rfl, hb3⟩
        obtain ⟨V4, hV4⟩ : ∃ V4, V3.alloc (.cells #[.int .u32 (g1 : Int), .string g2] 65) = V4 := ⟨_, rfl⟩
        have hB4 : Below V3.heap.size V3 V4 := by rw [← hV4]; exact (Below.refl _ V3).alloc (Nat.le_refl _) _
        have r4 : V4.heap[V3.heap.size]? = some (.cells #[.int .u32 (g1 : Int), .string g2] 65 (0, 0)) := by rw [← hV4]; exact heap_alloc_new V3 _
        have hB34 : Below wr.heap.size wr V4 := hb3.trans (hB4.mono hb3.size)
        have hBw : B ≤ wr.heap.size := by rw [← hB]; exact HOW.out.2.1.size
        have ho4 := own_keep HOW.out.1 (W' := V4) (fun z hz => hB34.block z (HOW.out.1.lt z hz).2)
        obtain ⟨aA, cA, VA, hrA, hoA, hgA, _⟩ := addG_own V4 ho4 (sgRow (s := (g1, g2)) r4) (by omega) (Nat.le_trans hBw hB34.size)
        have HE : Hid (VA.ownsRow B 65 2 (.slice aA (i + 1) cA) (i + 1) (sgR ((bl.take i).map (sgOf k) ++ [(g1, g2)])) ∧ Below V.heap.size V VA) := by
          have hV := HOW.out.2.1
          refine ⟨hoA, (hV.trans (hB34.mono hV.size)).grown hgA (Nat.le_trans hV.size hB34.size) (fun z hz => ?_)⟩
          have := (ho4.lt z (by rw [ob_slice]; exact hz)).1
          omega
        clear HO hb3 hB4 r4 hB34 hBw ho4 hoA hgA c0
        go_wp2_with ((at_builtin; refine wpList_app V4 rfl _ _ _ _ rfl rfl rfl (hrA _) ?_))
        refine ⟨⟨i + 1, cA, aA, by omega, by go_num, by go_num, ?_, HE.out.2⟩, by simp [intOf]; omega⟩
        rw [HST.out]
        exact HE.out.1
      · have kk : ¬ (i : Int) < (bn : Int) := by omega
        have HE : Hid (wr.ownsRow B 65 2 (.slice la i lc) i (sgR (bl.map (sgOf k))) ∧ Below w.heap.size w wr) := ⟨by rw [List.take_of_length_le (by omega)] at hown; exact hown, hbw0⟩
        clear hown hbw hbw0
        go_wp2
        refine bodyPost_ret (v := .tuple #[.slice la i lc, .int .i64 0]) ?_ rfl ⟨la, i, lc, rfl, own_base HE.out.1 (by rw [← hB]; exact HT.out.2.size), HE.out.2⟩
        simp [results, go_sem]
  · have hnil := HNE.out h0
    subst hnil
    have k0 : (er == 0) = false := by simpa using h0
    clear h0
    go_wp2
    refine bodyPost_ret (v := .tuple #[.slice none 0 0, .int .i64 er]) ?_ rfl ⟨none, 0, 0, rfl, World.ownsRow_nil _ _ _ _, HT.out.2⟩
    simp [results, go_sem]
theorem field_sg (a : Int) (b : ByteArray) (w : World) : (Instr.field 65 (.agg #[.int .u32 a, .string b]) 1).run Tryd.prog w = .ok (.string b) w := by
  simp [Instr.field, run_underlying Tryd.underlying65, go_sem, Tryd.isAgg9, Tryd.sizeOf9, asAgg]
def tAbcde : ByteArray := ⟨#[97, 98, 99, 100, 101]⟩
def lives3 : List ByteArray := [⟨#[97, 98]⟩, ⟨#[99, 100]⟩, ⟨#[101]⟩]
theorem txtRow3 {w : World} {b : Nat} {x y z : ByteArray} (h : w.heap[b]? = some (.cells #[.string x, .string y, .string z] 9 (0, 0))) : Tw (fun _ => True) w (some ⟨b, 0, none⟩) 3 3 [x, y, z] := by
  refine ⟨rfl, Nat.le_refl _, by unfold maxLen; omega, fun _ => ⟨b, 0, rfl, lt_of_some h, trivial, fun j u hu => ?_⟩⟩
  rw [Nat.zero_add, cell_of_row _ b _ _ _ _ h]
  simpa [stR, stC] using hu
theorem lives_blocks : blocksF tAbcde 2 = (lives3, 0) := by decide +kernel
end Go.Proofs.YtbhnmjjfammlkaaDoor
