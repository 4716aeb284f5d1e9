/- A walk over Find; IDs in memory. -/
import Derived.Test.YtjpkngbjjgimjaaDoorKO
namespace Go.Proofs.YtjpkngbjjgimjaaDoor
open Go.RowKit
/-- IDs in memory. -/
abbrev Ix := ByteArray × Nat
def Ix.cells (c : Ix) : Array Value := #[.string c.1, .int .i64 (c.2 : Int)]
def idR (l : List Ix) : List Value := l.flatMap fun c => (Ix.cells c).toList
theorem idR_len1 (c : Ix) : ((Ix.cells c).toList).length = 2 := rfl
theorem idR_app (a b : List Ix) : idR (a ++ b) = idR a ++ idR b := by simp [idR]
theorem idR_one (l : List Ix) : ∀ u ∈ idR l, u.oneCell' = true := by
  intro u hu
  obtain ⟨c, _, hc⟩ := List.mem_flatMap.1 hu
  simp only [Ix.cells, List.mem_cons, List.not_mem_nil, or_false] at hc
  rcases hc with rfl | rfl <;> rfl
def Iw (G : Nat → Prop) (w : World) (a : Option Addr) (len cap : Nat) (l : List Ix) : Prop := Rw G w 35 2 a len cap (idR l)
theorem Iw.len {G : Nat → Prop} {w : World} {a : Option Addr} {len cap : Nat} {l : List Ix} (h : Iw G w a len cap l) : l.length = len := by
  have := h.1
  unfold idR at this
  rw [fm_len idR_len1] at this
  omega
theorem Iw.below {G : Nat → Prop} {w w' : World} {a : Option Addr} {len cap : Nat} {l : List Ix} (h : Iw G w a len cap l) (hb : Below w.heap.size w w') : Iw G w' a len cap l := Rw.below h hb
theorem Iw.at {G : Nat → Prop} {w : World} {a : Option Addr} {len cap : Nat} {l : List Ix} (h : Iw G w a len cap l) (h0 : 0 < len) : ∃ b o, a = some ⟨b, o, none⟩ ∧ b < w.heap.size ∧ G b ∧ ∀ i (c : Ix), l[i]? = some c → w.cell? ⟨b, o + i * 2, none⟩ = some (.string c.1) ∧ w.cell? ⟨b, o + i * 2 + 1, none⟩ = some (.int .i64 (c.2 : Int)) := by
  obtain ⟨b, o, rfl, ⟨cur, fr, hb⟩, hg, hc⟩ := h.2.2.2 h0
  have key : ∀ i c, l[i]? = some c → ∀ j, j < 2 → (idR l)[i * 2 + j]? = (Ix.cells c).toList[j]? := fun i c hi j hj => fm_at idR_len1 hi j hj
  refine ⟨b, o, rfl, lt_of_some hb, hg, fun i c hi => ⟨?_, ?_⟩⟩
  · exact hc (i * 2) _ (key i c hi 0 (by omega))
  · rw [Nat.add_assoc]; exact hc (i * 2 + 1) _ (key i c hi 1 (by omega))
theorem infoIx : (Tryd.prog.info? 35).map (fun i => (i.zero, i.size, i.bytes)) = some (some (.agg #[.string ByteArray.empty, .int .i64 0]), 2, 24) := by kernel_rfl
theorem addI_own {G2 : Nat → Prop} (w : World) {base : Nat} {a : Option Addr} {n c : Nat} {l : List Ix} (h : w.ownsRow base 35 2 (.slice a n c) n (idR l)) {a2 : Option Addr} {m c2 : Nat} {k : List Ix} (h2 : Iw G2 w a2 m c2 k) (hN : n + m ≤ 1000000) (hb : base ≤ w.heap.size) :
    ∃ a' c' w', (∀ ty, (Builtin.append_ #[33, 33] ty #[.slice a n c, .slice a2 m c2]).run Tryd.prog w = .ok (.slice a' (n + m) c') w') ∧ w'.ownsRow base 35 2 (.slice a' (n + m) c') (n + m) (idR (l ++ k)) ∧ w.grownBy w' (ob a) ∧ (ob a' = ob a ∨ ob a' = some w.heap.size) := by
  obtain ⟨i, hi, hz, hs, hbb⟩ := info_of infoIx
  rw [idR_app]
  exact app_own w 33 35 i _ 2 24 Tryd.underlying33 hi hz hs hbb rfl (by omega) h h2 (idR_one k) hN (by omega) hb
theorem idRow {w : World} {b : Nat} {c : Ix} (h : w.heap[b]? = some (.cells (Ix.cells c) 35 (0, 0))) : Iw (fun _ => True) w (some ⟨b, 0, none⟩) 1 1 [c] := by
  refine ⟨rfl, Nat.le_refl _, by unfold maxLen; omega, fun _ => ⟨b, 0, rfl, ⟨_, _, h⟩, trivial, fun j u hu => ?_⟩⟩
  rw [Nat.zero_add, cell_of_row _ b _ _ _ _ h]
  simpa [idR] using hu
def ixOf (c : Cn) : Ix := (c.sum, c.n)
theorem alike_len (W : Nat) (T : List Pr) (sum : ByteArray) : (alikeL W T sum).length ≤ T.length := by
  unfold alikeL betw
  split
  · refine Nat.le_trans (List.length_filterMap_le _ _) ?_
    rw [range_mid, List.length_take]
    exact Nat.le_trans (Nat.min_le_right ..) (mid_len ..)
  · simp
/-- What Find leaves. -/
def FdTo (w : World) (l : List Ix) (e : Ending) (w' : World) : Prop := ∃ (ra : Option Addr) (rn rc : Nat), e = .returned (.slice ra rn rc) ∧ w'.ownsRow w.heap.size 35 2 (.slice ra rn rc) rn (idR l) ∧ Below w.heap.size w w'
section
variable {h0 : Nat} {F : Nat → Prop} {w : World} {st tb W : Nat} {full : Int} {T : List Pr}
set_option maxRecDepth 100000 in
set_option maxHeartbeats 4000000 in
theorem find_any (h : Cs h0 F w st tb W full T) (hW : W ≤ 32) (sum : ByteArray) : Calls Tryd.prog 24 #[.pointer (some ⟨st, 0, none⟩), .string sum] w fun e w' => FdTo w ((alikeL W T sum).map ixOf) e w' := by
  have HAL := alike_any h hW sum
  have hfew := Nat.le_trans (alike_len W T sum) h.few
  obtain ⟨AL, hAL⟩ : ∃ AL, alikeL W T sum = AL := ⟨_, rfl⟩
  rw [hAL] at HAL hfew ⊢
  obtain ⟨B, hB⟩ : ∃ B, w.heap.size = B := ⟨_, rfl⟩
  clear h hAL
  go_enter Tryd.func24, Tryd.ntmps24
  go_wp2_with fail
  refine HAL.mono ?_
  rintro e V3 ⟨ra, rn, rc, rfl, ho, hb3⟩
  have HCW : Hid (Cw (fun _ => True) V3 ra rn rc AL ∧ Below w.heap.size w V3) := ⟨Rw.own ho (fun _ _ => trivial), hb3⟩
  have hal := HCW.out.1.len
  have hrm : rn ≤ 90000 := by omega
  obtain ⟨B3, hB3⟩ : ∃ B3, V3.heap.size = B3 := ⟨_, rfl⟩
  clear HAL ho hb3
  go_wp2
  go_loopw [5, 14] (fun vl vi wr => ∃ (i lc : Nat) (la : Option Addr), i ≤ rn ∧ vi = .int .i64 i ∧ vl = .slice la i lc ∧ wr.ownsRow B3 35 2 (.slice la i lc) i (idR ((AL.take i).map ixOf)) ∧ Below V3.heap.size V3 wr) (fun _ vi _ => rn - (intOf vi).toNat)
  case atStart => exact ⟨0, 0, none, by omega, rfl, rfl, World.ownsRow_nil _ _ _ _, Below.refl _ _⟩
  case round =>
    obtain ⟨i, lc, la, hi, rfl, rfl, hown, hbw⟩ := hrel
    have hw3 : Below w.heap.size w wr := HCW.out.2.trans (hbw.mono HCW.out.2.size)
    by_cases hlt : i < rn
    · have kk : (i : Int) < (rn : Int) := by omega
      have hPW := HCW.out.1.below hbw
      obtain ⟨pb, po, rfl, _, hc⟩ := hPW.at (by omega)
      obtain ⟨⟨c1, c2, c3, c4⟩, hci⟩ : ∃ c, AL[i]? = some c := ⟨_, List.getElem?_eq_getElem (by omega)⟩
      obtain ⟨g0, g1, g2, g3⟩ := hc i _ hci
      simp only at g0 g1 g2 g3
      obtain ⟨V4, hV4⟩ : ∃ V4, wr.alloc (.cells #[.string c1, .int .i64 (c2 : Int), .int .u32 (c3 : Int), .string c4] 78) = V4 := ⟨_, rfl⟩
      obtain ⟨xb, hxb⟩ : ∃ xb, wr.heap.size = xb := ⟨_, rfl⟩
      have r4 : V4.heap[xb]? = some (.cells #[.string c1, .int .i64 (c2 : Int), .int .u32 (c3 : Int), .string c4] 78 (0, 0)) := by rw [← hV4, ← hxb]; exact heap_alloc_new wr _
      have hB4 : Below wr.heap.size wr V4 := by rw [← hV4]; exact (Below.refl _ wr).alloc (Nat.le_refl _) _
      have x0 : V4.cell? ⟨xb, 0, none⟩ = some (.string c1) := by rw [cell_of_row _ _ _ _ _ _ r4]; rfl
      have x1 : V4.cell? ⟨xb, 1, none⟩ = some (.int .i64 (c2 : Int)) := by rw [cell_of_row _ _ _ _ _ _ r4]; rfl
      obtain ⟨V7, hV7⟩ : ∃ V7, V4.alloc (.cells #[.string c1, .int .i64 (c2 : Int)] 35) = V7 := ⟨_, rfl⟩
      have hB7 : Below V4.heap.size V4 V7 := by rw [← hV7]; exact (Below.refl _ V4).alloc (Nat.le_refl _) _
      have r7 : V7.heap[V4.heap.size]? = some (.cells #[.string c1, .int .i64 (c2 : Int)] 35 (0, 0)) := by rw [← hV7]; exact heap_alloc_new V4 _
      have hB57 : Below wr.heap.size wr V7 := hB4.trans (hB7.mono hB4.size)
      have hBw : B3 ≤ wr.heap.size := by rw [← hB3]; exact hbw.size
      have ho7 := own_keep hown (W' := V7) (fun z hz => hB57.block z (hown.lt z hz).2)
      obtain ⟨aA, cA, VA, hrA, hoA, hgA, _⟩ := addI_own V7 ho7 (idRow (c := (c1, c2)) r7) (by omega) (Nat.le_trans hBw hB57.size)
      have HST : Hid ((AL.take (i + 1)).map ixOf = (AL.take i).map ixOf ++ [(c1, c2)]) := by
        show _ = _
        rw [take_snoc hci, List.map_append]
        rfl
      have HE : Hid (VA.ownsRow B3 35 2 (.slice aA (i + 1) cA) (i + 1) (idR ((AL.take i).map ixOf ++ [(c1, c2)])) ∧ Below V3.heap.size V3 VA) := by
        have hsz := hbw.size
        refine ⟨hoA, (hbw.trans (hB57.mono hsz)).grown hgA (Nat.le_trans hsz hB57.size) (fun z hz => ?_)⟩
        have := (ho7.lt z (by rw [ob_slice]; exact hz)).1
        omega
      have HV4 : Hid (wr.alloc (.cells #[.string c1, .int .i64 (c2 : Int), .int .u32 (c3 : Int), .string c4] 78) = V4) := hV4
      clear hown hbw hw3 hPW hc hci r4 hB4 hB7 r7 hB57 ho7 hoA hgA hBw
      go_wp2_with ((at_builtin; refine wpList_app V7 rfl _ _ _ _ rfl rfl rfl (hrA _) ?_))
      refine ⟨⟨i + 1, cA, aA, by omega, by go_num, by go_num, ?_, HE.out.2⟩, by simp [intOf]; omega⟩
      rw [HST.out]
      exact HE.out.1
    · have kk : ¬ (i : Int) < (rn : Int) := by omega
      have HE : Hid (wr.ownsRow B 35 2 (.slice la i lc) i (idR (AL.map ixOf)) ∧ Below w.heap.size w wr) := ⟨by rw [List.take_of_length_le (by omega)] at hown; exact own_base hown (by rw [← hB, ← hB3]; exact HCW.out.2.size), hw3⟩
      clear hown hbw hw3
      go_wp2
      go_ret
      exact ⟨la, i, lc, rfl, by rw [hB]; exact HE.out.1, HE.out.2⟩
end
end Go.Proofs.YtjpkngbjjgimjaaDoor
