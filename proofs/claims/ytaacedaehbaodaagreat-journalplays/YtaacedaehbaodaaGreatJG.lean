/- What the statements' changes makes. -/
import Derived.Test.YtaacedaehbaodaaGreatJD
namespace Go.Proofs.YtaacedaehbaodaaGreat
open Go.RowKit Go.Shelf
/-- A put as it came. -/
structure PutV where
  page : Int
  long : Int
  fill : Nat
def Ps (w : World) (a : Option Addr) (len cap : Nat) (l : List PutV) : Prop :=
  l.length = len ∧ len ≤ cap ∧ cap ≤ 9223372036854775807 ∧ (0 < len → ∃ b o, a = some ⟨b, o, none⟩ ∧ b < w.heap.size ∧ ∀ i (h : i < l.length), w.cell? ⟨b, o + i * 3, none⟩ = some (.int .i64 l[i].page) ∧ w.cell? ⟨b, o + i * 3 + 1, none⟩ = some (.int .i64 l[i].long) ∧ w.cell? ⟨b, o + i * 3 + 2, none⟩ = some (.int .u8 (l[i].fill : Int)) ∧ l[i].fill < 256)
theorem Ps.below {w w' : World} {a : Option Addr} {len cap : Nat} {l : List PutV} (h : Ps w a len cap l) (hb : Below w.heap.size w w') : Ps w' a len cap l := by
  obtain ⟨h1, h2, h3, h4⟩ := h
  refine ⟨h1, h2, h3, fun h0 => ?_⟩
  obtain ⟨b, o, rfl, hl, hc⟩ := h4 h0
  refine ⟨b, o, rfl, Nat.lt_of_lt_of_le hl hb.size, fun i hi => ?_⟩
  have k : ∀ z, w'.cell? ⟨b, z, none⟩ = w.cell? ⟨b, z, none⟩ := fun z => hb.cell hl
  rw [k, k, k]
  exact hc i hi
def chi (p : PutV) : Chi := (p.page, fillS p.long p.fill)
def chL (l : List PutV) : List Chi := l.map chi
def chiV (l : List Chi) : List Value := l.flatMap fun c => [.int .i64 c.1, .string c.2]
theorem chiV_snoc (l : List Chi) (c : Chi) : chiV (l ++ [c]) = chiV l ++ [.int .i64 c.1, .string c.2] := by simp [chiV]
theorem chiV_at (l : List Chi) (i : Nat) (q : Chi) (h : l[i]? = some q) : (chiV l)[2 * i]? = some (.int .i64 q.1) ∧ (chiV l)[2 * i + 1]? = some (.string q.2) := by
  induction l generalizing i with
  | nil => simp at h
  | cons p l ih =>
    cases i with
    | zero =>
      simp only [List.getElem?_cons_zero, Option.some.injEq] at h
      subst h
      exact ⟨rfl, rfl⟩
    | succ i =>
      simp only [List.getElem?_cons_succ] at h
      have := ih i h
      have e : chiV (p :: l) = .int .i64 p.1 :: .string p.2 :: chiV l := rfl
      rw [e, show 2 * (i + 1) = 2 * i + 1 + 1 by omega, show 2 * i + 1 + 1 + 1 = (2 * i + 1) + 1 + 1 by omega]
      simpa using this
theorem chiV_one (l : List Chi) : ∀ u ∈ chiV l, u.oneCell' = true := by
  intro u hu
  simp only [chiV, List.mem_flatMap, List.mem_cons, List.not_mem_nil, or_false] at hu
  obtain ⟨x, _, rfl | rfl⟩ := hu <;> rfl
theorem chiV_len (l : List Chi) : (chiV l).length = l.length * 2 := by
  induction l with
  | nil => rfl
  | cons p l ih =>
    show (.int .i64 p.1 :: .string p.2 :: chiV l : List Value).length = _
    rw [List.length_cons, List.length_cons, ih, List.length_cons]
    omega
theorem Ci.own {w : World} {base e : Nat} {a : Option Addr} {len cap : Nat} {l : List Chi} (h : w.ownsRow base e 2 (.slice a len cap) len (chiV l)) (hl : l.length = len) : Ci w a len cap l := by
  rcases h.2 with ⟨h2, h3⟩ | ⟨g', cap', cur, e, hb, hr, h3, h4, h5, h6⟩
  · cases h2
    exact ⟨hl, Nat.le_refl _, by omega, by omega⟩
  · cases e
    refine ⟨hl, h3, by unfold maxLen at h4; omega, fun h0 => ⟨g', 0, rfl, lt_of_some hr, fun i hi => ?_⟩⟩
    obtain ⟨e1, e2⟩ := chiV_at l i l[i] (List.getElem?_eq_getElem hi)
    have c1 := own_at h e1
    have c2 := own_at h e2
    rw [show 0 + i * 2 = 2 * i by omega]
    exact ⟨c1, c2⟩
theorem own_ne {W : World} {b1 e1 s1 n1 b2 e2 s2 n2 : Nat} {v1 v2 : Value} {x1 x2 : List Value} (h1 : W.ownsRow b1 e1 s1 v1 n1 x1) (h2 : W.ownsRow b2 e2 s2 v2 n2 x2) (hne : e1 ≠ e2) : ∀ x, v2.ownBlock = some x → some x ≠ v1.ownBlock := by
  intro x hx e
  rcases h1.2 with ⟨rfl, _⟩ | ⟨g1, _, _, rfl, _, hr1, _⟩
  · cases e
  · rcases h2.2 with ⟨rfl, _⟩ | ⟨g2, _, _, rfl, _, hr2, _⟩
    · cases hx
    · cases hx
      cases e
      rw [hr1] at hr2
      cases hr2
      exact hne rfl
theorem info51 : (Tryz.prog.info? 79).map (fun i => (i.zero, i.size, i.bytes)) = some (some (.agg #[.int .i64 0, .string ByteArray.empty]), 2, 24) := by kernel_rfl
set_option maxRecDepth 100000 in
set_option maxHeartbeats 4000000 in
theorem changes_any {w : World} (a : Option Addr) (len cap : Nat) (l : List PutV) (hl : Ps w a len cap l) :
    Calls Tryz.prog 10 #[.slice a len cap] w fun e w' => ∃ a1 c1 a2 c2, e = .returned (.tuple #[.slice a1 (min len 12) c1, .slice a2 (min len 12) c2]) ∧ w'.ownsRow w.heap.size 68 2 (.slice a1 (min len 12) c1) (min len 12) (chiV (chL (l.take 12))) ∧ w'.ownsRow w.heap.size 79 2 (.slice a2 (min len 12) c2) (min len 12) (chiV (chL (l.take 12))) ∧ Below w.heap.size w w' := by
  obtain ⟨ia0, iah, iaz0, iaz1, iaz2⟩ := info_parts info57
  obtain ⟨ib0, ibh, ibz0, ibz1, ibz2⟩ := info_parts info51
  have hll := hl.1
  have hcap := hl.2.1
  have hcap2 := hl.2.2.1
  have HL : Hid (Ps w a len cap l) := hl
  clear hl
  go_enter Tryz.func10, Tryz.ntmps10
  go_wp2
  go_loopw [4, 5, 6] (fun va vb vi wr => ∃ (i : Nat) (a1 : Option Addr) (c1 : Nat) (a2 : Option Addr) (c2 : Nat), i ≤ len ∧ i ≤ 12 ∧ vi = .int .i64 i ∧ va = .slice a1 i c1 ∧ vb = .slice a2 i c2 ∧ wr.ownsRow w.heap.size 68 2 va i (chiV (chL (l.take i))) ∧ wr.ownsRow w.heap.size 79 2 vb i (chiV (chL (l.take i))) ∧ Below w.heap.size w wr) (fun _ _ vi _ => 12 - (intOf vi).toNat)
  case atStart => exact ⟨0, none, 0, none, 0, by omega, by omega, rfl, rfl, rfl, World.ownsRow_nil _ _ _ _, World.ownsRow_nil _ _ _ _, Below.refl _ _⟩
  case round =>
    obtain ⟨i, a1, c1, a2, c2, hi1, hi2, rfl, rfl, rfl, hoa, hob, hbel⟩ := hrel
    have Hwr : Hid (Below w.heap.size w wr) := hbel
    by_cases hlt : i < len ∧ i < 12
    · have k1 : (i : Int) < (len : Int) := by omega
      have k2 : (i : Int) < 12 := by omega
      have hil : i < l.length := by omega
      obtain ⟨b, o, rfl, hb, hcell⟩ := HL.out.2.2.2 (by omega)
      have hci := hcell i hil
      obtain ⟨⟨pg, lo, fi⟩, hp⟩ : ∃ p, l[i] = p := ⟨_, rfl⟩
      rw [hp] at hci
      simp only at hci
      obtain ⟨d1, d2, d3, hfi⟩ := hci
      obtain ⟨T, hT⟩ : ∃ T, fillS lo fi = T := ⟨_, rfl⟩
      have HTK : Hid (chL (l.take (i + 1)) = chL (l.take i) ++ [(pg, T)]) := by
        show _ = _
        rw [List.take_succ_eq_append_getElem hil, hp]
        simp [chL, chi, hT]
      have HFI : Hid (∀ W, Calls Tryz.prog 26 #[.agg #[.int .i64 pg, .int .i64 lo, .int .u8 (fi : Int)]] W fun e w' => e = .returned (.string T) ∧ Below W.heap.size W w') := fun W => by rw [← hT]; exact filled_any pg lo fi W hfi
      have HCS : Hid (∀ V, Below w.heap.size w V → V.cell? ⟨b, o + i * 3, none⟩ = some (.int .i64 pg) ∧ V.cell? ⟨b, o + i * 3 + 1, none⟩ = some (.int .i64 lo) ∧ V.cell? ⟨b, o + i * 3 + 2, none⟩ = some (.int .u8 (fi : Int))) := fun V hV =>
        ⟨by rw [hV.cell hb]; exact d1, by rw [hV.cell hb]; exact d2, by rw [hV.cell hb]; exact d3⟩
      have HOA : Hid (∀ V, Below wr.drew.heap.size wr.drew V → (V.alloc (.cells #[.int .i64 pg, .string T] 68)).ownsRow w.heap.size 68 2 (.slice a1 i c1) i (chiV (chL (l.take i)))) := fun V hV =>
        (own_keep hoa (fun x hx => hV.block x (hoa.lt x hx).2)).alloc _
      have HNE := own_ne hoa hob (by decide)
      have HOB0 : Hid (wr.ownsRow w.heap.size 79 2 (.slice a2 i c2) i (chiV (chL (l.take i)))) := hob
      have HNE : Hid (∀ x, (Value.slice a2 i c2).ownBlock = some x → some x ≠ (Value.slice a1 i c1).ownBlock) := HNE
      clear hT hcell d1 d2 d3 hoa hob hbel hlt
      go_wp2
      refine wp_region_held_drew (S := fun V => V.cell? ⟨b, o + i * 3, none⟩ = some (.int .i64 pg) ∧ V.cell? ⟨b, o + i * 3 + 1, none⟩ = some (.int .i64 lo) ∧ V.cell? ⟨b, o + i * 3 + 2, none⟩ = some (.int .u8 (fi : Int))) (by kernel_rfl) (HCS.out _ Hwr.out.drew) (fun hHeld => ?_)
      refine wpAnyH_take (i := 0) (v := ?va0) rfl (by kernel_rfl) (by kernel_rfl) (by kernel_rfl) (fun _ _ _ h => h) (Or.inl ⟨by first | kernel_rfl | rfl, ?ya0⟩) hHeld ?ra0
      case ya0 => (intro W hSW; (try dsimp only at hSW); go_simp; (try with_reducible rfl))
      change wpAnyH _ _ _ _ _ _ _ (Act.put _ (some 17) _) _
      simp only [Act.put, List.setIfInBounds_toArray, List.set_cons_zero, List.set_cons_succ]
      refine wpAnyH_take (i := 1) (v := ?va1) rfl (by kernel_rfl) (by kernel_rfl) (by kernel_rfl) (fun _ _ _ h => h) (Or.inl ⟨by first | kernel_rfl | rfl, ?ya1⟩) hHeld ?ra1
      case ya1 => (intro W hSW; (try dsimp only at hSW); go_simp; (try with_reducible rfl))
      change wpAnyH _ _ _ _ _ _ _ (Act.put _ (some 18) _) _
      simp only [Act.put, List.setIfInBounds_toArray, List.set_cons_zero, List.set_cons_succ]
      refine wpAnyH_take (i := 2) (v := ?va2) rfl (by kernel_rfl) (by kernel_rfl) (by kernel_rfl) (fun _ _ _ h => h) (Or.inl ⟨by first | kernel_rfl | rfl, ?ya2⟩) hHeld ?ra2
      case ya2 => (intro W hSW; (try dsimp only at hSW); go_simp; (try with_reducible rfl))
      change wpAnyH _ _ _ _ _ _ _ (Act.put _ (some 19) _) _
      simp only [Act.put, List.setIfInBounds_toArray, List.set_cons_zero, List.set_cons_succ]
      refine wpAnyH_take (i := 3) (v := ?va3) rfl (by kernel_rfl) (by kernel_rfl) (by kernel_rfl) (fun _ _ _ h => h) (Or.inl ⟨by first | kernel_rfl | rfl, ?ya3⟩) hHeld ?ra3
      case ya3 => (intro W hSW; (try dsimp only at hSW); go_simp; (try with_reducible rfl))
      change wpAnyH _ _ _ _ _ _ _ (Act.put _ (some 20) _) _
      simp only [Act.put, List.setIfInBounds_toArray, List.set_cons_zero, List.set_cons_succ]
      refine wpAnyH_take (i := 4) (v := ?va4) rfl (by kernel_rfl) (by kernel_rfl) (by kernel_rfl) (fun _ _ _ h => h) (Or.inl ⟨by first | kernel_rfl | rfl, ?ya4⟩) hHeld ?ra4
      case ya4 => (intro W hSW; (try dsimp only at hSW); go_simp; (try with_reducible rfl))
      change wpAnyH _ _ _ _ _ _ _ (Act.put _ (some 21) _) _
      simp only [Act.put, List.setIfInBounds_toArray, List.set_cons_zero, List.set_cons_succ]
      refine wpAnyH_take (i := 5) (v := ?va5) rfl (by kernel_rfl) (by kernel_rfl) (by kernel_rfl) (fun _ _ _ h => h) (Or.inl ⟨by first | kernel_rfl | rfl, ?ya5⟩) hHeld ?ra5
      case ya5 => (intro W hSW; (try dsimp only at hSW); go_simp; (try with_reducible rfl))
      change wpAnyH _ _ _ _ _ _ _ (Act.put _ (some 22) _) _
      simp only [Act.put, List.setIfInBounds_toArray, List.set_cons_zero, List.set_cons_succ]
      refine wpAnyH_take (i := 6) (v := ?va6) rfl (by kernel_rfl) (by kernel_rfl) (by kernel_rfl) (fun _ _ _ h => h) (Or.inl ⟨by first | kernel_rfl | rfl, ?ya6⟩) hHeld ?ra6
      case ya6 => (intro W hSW; (try dsimp only at hSW); go_simp; (try with_reducible rfl))
      change wpAnyH _ _ _ _ _ _ _ (Act.put _ (some 23) _) _
      simp only [Act.put, List.setIfInBounds_toArray, List.set_cons_zero, List.set_cons_succ]
      refine wpAnyH_take (i := 7) (v := ?va7) rfl (by kernel_rfl) (by kernel_rfl) (by kernel_rfl) (fun _ _ _ h => h) (Or.inl ⟨by first | kernel_rfl | rfl, ?ya7⟩) hHeld ?ra7
      case ya7 => (intro W hSW; (try dsimp only at hSW); go_simp; (try with_reducible rfl))
      change wpAnyH _ _ _ _ _ _ _ (Act.put _ (some 24) _) _
      simp only [Act.put, List.setIfInBounds_toArray, List.set_cons_zero, List.set_cons_succ]
      refine wpAnyH_take (i := 8) (v := ?va8) rfl (by kernel_rfl) (by kernel_rfl) (by kernel_rfl) (fun _ _ _ h => h) (Or.inl ⟨by first | kernel_rfl | rfl, ?ya8⟩) hHeld ?ra8
      case ya8 => (intro W hSW; (try dsimp only at hSW); go_simp; (try with_reducible rfl))
      change wpAnyH _ _ _ _ _ _ _ (Act.put _ (some 25) _) _
      simp only [Act.put, List.setIfInBounds_toArray, List.set_cons_zero, List.set_cons_succ]
      refine wpAnyH_take (i := 9) (v := ?va9) rfl (by kernel_rfl) (by kernel_rfl) (by kernel_rfl) (fun _ _ _ h => h) (Or.inl ⟨by first | kernel_rfl | rfl, ?ya9⟩) hHeld ?ra9
      case ya9 => (intro W hSW; (try dsimp only at hSW); go_simp; (try with_reducible rfl))
      change wpAnyH _ _ _ _ _ _ _ (Act.put _ (some 26) _) _
      simp only [Act.put, List.setIfInBounds_toArray, List.set_cons_zero, List.set_cons_succ]
      refine wpAnyH_ready (rs := [10]) (by kernel_rfl) (by simp) ?_
      refine AllReadyH.cons rfl (fun K hK => ?_) AllReadyH.nil
      go_simp
      refine ((HFI.out wr.drew)).mono ?_
      rintro e V2 ⟨rfl, hb2⟩; have HB2 : Hid (Below wr.drew.heap.size wr.drew V2) := hb2; have HL2 : Hid (Below w.heap.size w V2) := Hwr.out.drew.trans (HB2.out.mono Hwr.out.size); clear hb2
      refine hK.out _ _ (HCS.out _ HL2.out) (fun hHeld => ?_)
      clear hK K
      try simp only [Act.put, List.setIfInBounds_toArray, List.set_cons_zero, List.set_cons_succ]
      refine wpAnyH_take (i := 11) (v := ?va11) rfl (by kernel_rfl) (by kernel_rfl) (by kernel_rfl) (fun _ _ _ h => h) (Or.inl ⟨by first | kernel_rfl | rfl, ?ya11⟩) hHeld ?ra11
      case ya11 => (intro W hSW; (try dsimp only at hSW); go_simp; (try with_reducible rfl))
      change wpAnyH _ _ _ _ _ _ _ (Act.put _ (some 28) _) _
      simp only [Act.put, List.setIfInBounds_toArray, List.set_cons_zero, List.set_cons_succ]
      refine wpAnyH_ready (rs := [12]) (by kernel_rfl) (by simp) ?_
      refine AllReadyH.cons rfl (fun K hK => ?_) AllReadyH.nil
      go_simp
      refine hK.out _ _ (HCS.out _ (HL2.out.alloc HL2.out.size _)) (fun hHeld => ?_)
      clear hK K
      try simp only [Act.put, List.setIfInBounds_toArray, List.set_cons_zero, List.set_cons_succ]
      refine wpAnyH_ready (rs := [13]) (by kernel_rfl) (by simp) ?_
      refine AllReadyH.cons rfl (fun K hK => ?_) AllReadyH.nil
      rw [if_pos (by rfl)]
      refine wp_append_lies (V2.alloc (.cells #[.int .i64 pg, .string T] 68)) _ _ 43 rfl w.heap.size 68 ia0 (.agg #[.int .i64 0, .string ByteArray.empty]) 2 24 Tryz.underlying43 iah iaz0 iaz1 iaz2 rfl (by decide) _ i (chiV (chL (l.take i))) rfl (HOA.out V2 HB2.out) ⟨V2.heap.size, 0, none⟩ 1 1 [.int .i64 pg, .string T] rfl rfl (World.news_of_block (heap_alloc_new V2 _)) (by simp [Value.oneCell']) (by omega) (by unfold maxLen; omega) (by omega) (by have := HL2.out.size; simp; omega) _ rfl ?_
      intro g2 cp2 V3 hown2 hgrow2 hg2 hlt2; have HO3 : Hid (V3.ownsRow w.heap.size 68 2 (.slice (some ⟨g2, 0, none⟩) (i + 1) cp2) (i + 1) (chiV (chL (l.take (i + 1))))) := (by rw [HTK.out, chiV_snoc]; exact hown2); have HG3 : Hid ((V2.alloc (.cells #[.int .i64 pg, .string T] 68)).grownBy V3 _) := hgrow2; have HV3 : Hid (Below w.heap.size w V3) := (HL2.out.alloc HL2.out.size _).grown hgrow2 (by have := HL2.out.size; simp; omega) (fun j hj => (HOA.out V2 HB2.out).lt j hj |>.1); clear hown2 hgrow2 hg2 hlt2
      refine hK.out _ _ (HCS.out _ HV3.out) (fun hHeld => ?_)
      clear hK K
      change wpAnyH _ _ _ _ _ _ _ (Act.put _ (some 30) _) _
      simp only [Act.put, List.setIfInBounds_toArray, List.set_cons_zero, List.set_cons_succ]
      refine wpAnyH_take (i := 14) (v := ?va14) rfl (by kernel_rfl) (by kernel_rfl) (by kernel_rfl) (fun _ _ _ h => h) (Or.inl ⟨by first | kernel_rfl | rfl, ?ya14⟩) hHeld ?ra14
      case ya14 => (intro W hSW; (try dsimp only at hSW); go_simp; (try with_reducible rfl))
      change wpAnyH _ _ _ _ _ _ _ (Act.put _ (some 4) _) _
      simp only [Act.put, List.setIfInBounds_toArray, List.set_cons_zero, List.set_cons_succ]
      refine wpAnyH_done (by kernel_rfl) ?_ _
      have HOB : Hid (∀ V, Below V3.drew.heap.size V3.drew V → (V.alloc (.cells #[.int .i64 pg, .string T] 79)).ownsRow w.heap.size 79 2 (.slice a2 i c2) i (chiV (chL (l.take i)))) := fun V hV => by
        refine (own_keep HOB0.out (fun x hx => ?_)).alloc _
        have hx1 := (HOB0.out.lt x hx).2
        have hx2 : x < V2.heap.size := Nat.lt_of_lt_of_le hx1 HB2.out.size
        have hx3 : x < (V2.alloc (.cells #[.int .i64 pg, .string T] 68)).heap.size := by simp; omega
        rw [hV.block x (Nat.lt_of_lt_of_le hx3 HG3.out.size)]
        show V3.heap[x]? = _
        rw [HG3.out.block x hx3 (HNE.out x hx), Below.heap_alloc _ _ _ hx2]
        exact HB2.out.block x hx1
      have HV3 : Hid (Below w.heap.size w V3) := HV3.out
      clear hHeld HOA
      go_wp2
      refine wp_region_held_drew (S := fun V => V.cell? ⟨b, o + i * 3, none⟩ = some (.int .i64 pg) ∧ V.cell? ⟨b, o + i * 3 + 1, none⟩ = some (.int .i64 lo) ∧ V.cell? ⟨b, o + i * 3 + 2, none⟩ = some (.int .u8 (fi : Int))) (by kernel_rfl) (HCS.out _ HV3.out.drew) (fun hHeld => ?_)
      refine wpAnyH_take (i := 0) (v := ?vb0) rfl (by kernel_rfl) (by kernel_rfl) (by kernel_rfl) (fun _ _ _ h => h) (Or.inl ⟨by first | kernel_rfl | rfl, ?yb0⟩) hHeld ?rb0
      case yb0 => (intro W hSW; (try dsimp only at hSW); go_simp; (try with_reducible rfl))
      change wpAnyH _ _ _ _ _ _ _ (Act.put _ (some 31) _) _
      simp only [Act.put, List.setIfInBounds_toArray, List.set_cons_zero, List.set_cons_succ]
      refine wpAnyH_take (i := 1) (v := ?vb1) rfl (by kernel_rfl) (by kernel_rfl) (by kernel_rfl) (fun _ _ _ h => h) (Or.inl ⟨by first | kernel_rfl | rfl, ?yb1⟩) hHeld ?rb1
      case yb1 => (intro W hSW; (try dsimp only at hSW); go_simp; (try with_reducible rfl))
      change wpAnyH _ _ _ _ _ _ _ (Act.put _ (some 32) _) _
      simp only [Act.put, List.setIfInBounds_toArray, List.set_cons_zero, List.set_cons_succ]
      refine wpAnyH_take (i := 2) (v := ?vb2) rfl (by kernel_rfl) (by kernel_rfl) (by kernel_rfl) (fun _ _ _ h => h) (Or.inl ⟨by first | kernel_rfl | rfl, ?yb2⟩) hHeld ?rb2
      case yb2 => (intro W hSW; (try dsimp only at hSW); go_simp; (try with_reducible rfl))
      change wpAnyH _ _ _ _ _ _ _ (Act.put _ (some 33) _) _
      simp only [Act.put, List.setIfInBounds_toArray, List.set_cons_zero, List.set_cons_succ]
      refine wpAnyH_take (i := 3) (v := ?vb3) rfl (by kernel_rfl) (by kernel_rfl) (by kernel_rfl) (fun _ _ _ h => h) (Or.inl ⟨by first | kernel_rfl | rfl, ?yb3⟩) hHeld ?rb3
      case yb3 => (intro W hSW; (try dsimp only at hSW); go_simp; (try with_reducible rfl))
      change wpAnyH _ _ _ _ _ _ _ (Act.put _ (some 34) _) _
      simp only [Act.put, List.setIfInBounds_toArray, List.set_cons_zero, List.set_cons_succ]
      refine wpAnyH_take (i := 4) (v := ?vb4) rfl (by kernel_rfl) (by kernel_rfl) (by kernel_rfl) (fun _ _ _ h => h) (Or.inl ⟨by first | kernel_rfl | rfl, ?yb4⟩) hHeld ?rb4
      case yb4 => (intro W hSW; (try dsimp only at hSW); go_simp; (try with_reducible rfl))
      change wpAnyH _ _ _ _ _ _ _ (Act.put _ (some 35) _) _
      simp only [Act.put, List.setIfInBounds_toArray, List.set_cons_zero, List.set_cons_succ]
      refine wpAnyH_take (i := 5) (v := ?vb5) rfl (by kernel_rfl) (by kernel_rfl) (by kernel_rfl) (fun _ _ _ h => h) (Or.inl ⟨by first | kernel_rfl | rfl, ?yb5⟩) hHeld ?rb5
      case yb5 => (intro W hSW; (try dsimp only at hSW); go_simp; (try with_reducible rfl))
      change wpAnyH _ _ _ _ _ _ _ (Act.put _ (some 36) _) _
      simp only [Act.put, List.setIfInBounds_toArray, List.set_cons_zero, List.set_cons_succ]
      refine wpAnyH_take (i := 6) (v := ?vb6) rfl (by kernel_rfl) (by kernel_rfl) (by kernel_rfl) (fun _ _ _ h => h) (Or.inl ⟨by first | kernel_rfl | rfl, ?yb6⟩) hHeld ?rb6
      case yb6 => (intro W hSW; (try dsimp only at hSW); go_simp; (try with_reducible rfl))
      change wpAnyH _ _ _ _ _ _ _ (Act.put _ (some 37) _) _
      simp only [Act.put, List.setIfInBounds_toArray, List.set_cons_zero, List.set_cons_succ]
      refine wpAnyH_take (i := 7) (v := ?vb7) rfl (by kernel_rfl) (by kernel_rfl) (by kernel_rfl) (fun _ _ _ h => h) (Or.inl ⟨by first | kernel_rfl | rfl, ?yb7⟩) hHeld ?rb7
      case yb7 => (intro W hSW; (try dsimp only at hSW); go_simp; (try with_reducible rfl))
      change wpAnyH _ _ _ _ _ _ _ (Act.put _ (some 38) _) _
      simp only [Act.put, List.setIfInBounds_toArray, List.set_cons_zero, List.set_cons_succ]
      refine wpAnyH_take (i := 8) (v := ?vb8) rfl (by kernel_rfl) (by kernel_rfl) (by kernel_rfl) (fun _ _ _ h => h) (Or.inl ⟨by first | kernel_rfl | rfl, ?yb8⟩) hHeld ?rb8
      case yb8 => (intro W hSW; (try dsimp only at hSW); go_simp; (try with_reducible rfl))
      change wpAnyH _ _ _ _ _ _ _ (Act.put _ (some 39) _) _
      simp only [Act.put, List.setIfInBounds_toArray, List.set_cons_zero, List.set_cons_succ]
      refine wpAnyH_take (i := 9) (v := ?vb9) rfl (by kernel_rfl) (by kernel_rfl) (by kernel_rfl) (fun _ _ _ h => h) (Or.inl ⟨by first | kernel_rfl | rfl, ?yb9⟩) hHeld ?rb9
      case yb9 => (intro W hSW; (try dsimp only at hSW); go_simp; (try with_reducible rfl))
      change wpAnyH _ _ _ _ _ _ _ (Act.put _ (some 40) _) _
      simp only [Act.put, List.setIfInBounds_toArray, List.set_cons_zero, List.set_cons_succ]
      refine wpAnyH_ready (rs := [10]) (by kernel_rfl) (by simp) ?_
      refine AllReadyH.cons rfl (fun K hK => ?_) AllReadyH.nil
      go_simp
      refine ((HFI.out V3.drew)).mono ?_
      rintro e V4 ⟨rfl, hb4⟩; have HB4 : Hid (Below V3.drew.heap.size V3.drew V4) := hb4; have HL4 : Hid (Below w.heap.size w V4) := HV3.out.drew.trans (HB4.out.mono HV3.out.size); clear hb4
      refine hK.out _ _ (HCS.out _ HL4.out) (fun hHeld => ?_)
      clear hK K
      try simp only [Act.put, List.setIfInBounds_toArray, List.set_cons_zero, List.set_cons_succ]
      refine wpAnyH_take (i := 11) (v := ?vb11) rfl (by kernel_rfl) (by kernel_rfl) (by kernel_rfl) (fun _ _ _ h => h) (Or.inl ⟨by first | kernel_rfl | rfl, ?yb11⟩) hHeld ?rb11
      case yb11 => (intro W hSW; (try dsimp only at hSW); go_simp; (try with_reducible rfl))
      change wpAnyH _ _ _ _ _ _ _ (Act.put _ (some 42) _) _
      simp only [Act.put, List.setIfInBounds_toArray, List.set_cons_zero, List.set_cons_succ]
      refine wpAnyH_ready (rs := [12]) (by kernel_rfl) (by simp) ?_
      refine AllReadyH.cons rfl (fun K hK => ?_) AllReadyH.nil
      go_simp
      refine hK.out _ _ (HCS.out _ (HL4.out.alloc HL4.out.size _)) (fun hHeld => ?_)
      clear hK K
      try simp only [Act.put, List.setIfInBounds_toArray, List.set_cons_zero, List.set_cons_succ]
      refine wpAnyH_ready (rs := [13]) (by kernel_rfl) (by simp) ?_
      refine AllReadyH.cons rfl (fun K hK => ?_) AllReadyH.nil
      rw [if_pos (by rfl)]
      refine wp_append_lies (V4.alloc (.cells #[.int .i64 pg, .string T] 79)) _ _ 44 rfl w.heap.size 79 ib0 (.agg #[.int .i64 0, .string ByteArray.empty]) 2 24 Tryz.underlying44 ibh ibz0 ibz1 ibz2 rfl (by decide) _ i (chiV (chL (l.take i))) rfl (HOB.out V4 HB4.out) ⟨V4.heap.size, 0, none⟩ 1 1 [.int .i64 pg, .string T] rfl rfl (World.news_of_block (heap_alloc_new V4 _)) (by simp [Value.oneCell']) (by omega) (by unfold maxLen; omega) (by omega) (by have := HL4.out.size; simp; omega) _ rfl ?_
      intro g4 cp4 V5 hown4 hgrow4 hg4 hlt4; have HO5 : Hid (V5.ownsRow w.heap.size 79 2 (.slice (some ⟨g4, 0, none⟩) (i + 1) cp4) (i + 1) (chiV (chL (l.take (i + 1))))) := (by rw [HTK.out, chiV_snoc]; exact hown4); have HG5 : Hid ((V4.alloc (.cells #[.int .i64 pg, .string T] 79)).grownBy V5 _) := hgrow4; have HV5 : Hid (Below w.heap.size w V5) := (HL4.out.alloc HL4.out.size _).grown hgrow4 (by have := HL4.out.size; simp; omega) (fun j hj => (HOB.out V4 HB4.out).lt j hj |>.1); clear hown4 hgrow4 hg4 hlt4
      refine hK.out _ _ (HCS.out _ HV5.out) (fun hHeld => ?_)
      clear hK K
      change wpAnyH _ _ _ _ _ _ _ (Act.put _ (some 44) _) _
      simp only [Act.put, List.setIfInBounds_toArray, List.set_cons_zero, List.set_cons_succ]
      refine wpAnyH_take (i := 14) (v := ?vb14) rfl (by kernel_rfl) (by kernel_rfl) (by kernel_rfl) (fun _ _ _ h => h) (Or.inl ⟨by first | kernel_rfl | rfl, ?yb14⟩) hHeld ?rb14
      case yb14 => (intro W hSW; (try dsimp only at hSW); go_simp; (try with_reducible rfl))
      change wpAnyH _ _ _ _ _ _ _ (Act.put _ (some 5) _) _
      simp only [Act.put, List.setIfInBounds_toArray, List.set_cons_zero, List.set_cons_succ]
      refine wpAnyH_done (by kernel_rfl) ?_ _
      have HOA5 : Hid (V5.ownsRow w.heap.size 68 2 (.slice (some ⟨g2, 0, none⟩) (i + 1) cp2) (i + 1) (chiV (chL (l.take (i + 1))))) := by
        refine own_keep HO3.out (fun x hx => ?_)
        have hx1 := (HO3.out.lt x hx).2
        have hx2 : x < V4.heap.size := Nat.lt_of_lt_of_le hx1 HB4.out.size
        have hx3 : x < (V4.alloc (.cells #[.int .i64 pg, .string T] 79)).heap.size := by simp; omega
        have hrb : V3.ownsRow w.heap.size 79 2 (.slice a2 i c2) i (chiV (chL (l.take i))) := own_keep (HOB.out V3.drew (Below.refl _ _)) (fun y hy => by
          have := ((HOB.out V3.drew (Below.refl _ _)).lt y hy).2
          rcases Nat.lt_or_ge y V3.heap.size with h | h
          · exact (Below.heap_alloc V3.drew _ y h).symm
          · have hyy := own_base HOB0.out (Nat.zero_le _)
            have := (HOB0.out.lt y hy).2
            have h2 : y < V2.heap.size := Nat.lt_of_lt_of_le this HB2.out.size
            have h3 := HG3.out.size
            simp at h3
            omega)
        rw [HG5.out.block x hx3 (own_ne hrb HO3.out (by decide) x hx), Below.heap_alloc _ _ _ hx2]
        exact HB4.out.block x hx1
      clear hHeld HOB HOB0 HO3 HFI HCS
      go_wp2
      exact ⟨⟨i + 1, _, _, _, _, by omega, by omega, by go_num, rfl, rfl, HOA5.out, HO5.out, HV5.out⟩, by simp [intOf]; omega⟩
    · have HM : Hid (min len 12 = i) := by show _ = _; omega
      have htk : l.take 12 = l.take i := by
        rcases Nat.lt_or_ge i 12 with h | h
        · rw [List.take_of_length_le (by omega), List.take_of_length_le (by omega)]
        · rw [show i = 12 by omega]
      have HE : Hid (wr.ownsRow w.heap.size 68 2 (.slice a1 i c1) i (chiV (chL (l.take 12))) ∧ wr.ownsRow w.heap.size 79 2 (.slice a2 i c2) i (chiV (chL (l.take 12)))) := by rw [htk]; exact ⟨hoa, hob⟩
      clear hoa hob htk hbel
      by_cases h1 : i < len
      · have k1 : (i : Int) < (len : Int) := by omega
        have k2 : ¬ (i : Int) < 12 := by omega
        go_wp2
        go_ret2
        rw [HM.out]
        exact ⟨a1, c1, a2, c2, rfl, HE.out.1, HE.out.2, Hwr.out⟩
      · have k1 : ¬ (i : Int) < (len : Int) := by omega
        go_wp2
        go_ret2
        rw [HM.out]
        exact ⟨a1, c1, a2, c2, rfl, HE.out.1, HE.out.2, Hwr.out⟩
end Go.Proofs.YtaacedaehbaodaaGreat
