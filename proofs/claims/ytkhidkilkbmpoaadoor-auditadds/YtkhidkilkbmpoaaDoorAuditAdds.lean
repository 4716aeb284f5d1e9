/- Proved: for every audit and every entry the law AuditAdds returns true, what was handed in as it was (what any audit is when it goes on by any entry, or why it can't, and its digest, are the document's; what was handed in stays); where the package's two tables begin as the program's text lays them. -/
import Derived.Test.YtkhidkilkbmpoaaDoorRM
import Derived.Test.YtkhidkilkbmpoaaDoorQGB
import Derived.Test.YtkhidkilkbmpoaaDoorCards
import Derived.Test.YtkhidkilkbmpoaaDoorTie
import Derived.WalkKit
import Derived.Deep.Cut
import Derived.ProofKit
import Derived.OpenShut
import Derived.ShutString
import Derived.ChangeOld
import Derived.Below
import Derived.LaidMore
import Derived.Stop.Joined
import Derived.SevenTiedAt
namespace Go.Proofs.YtkhidkilkbmpoaaDoor.auditAdds
open Go.ChangeShapes Go.WideShapes Go.ChangeAt Go.WideMaps Go.WideElems Go.RowKit
open Go.ChangeMaps (open_string shut_string)

set_option maxRecDepth 100000 in
set_option maxHeartbeats 8000000 in
theorem walk (s0 : ByteArray) (n0 : Int) (a0 : Option Addr) (len0 cap0 : Nat) (l0 : List En) (cA : ∀ c ∈ l0, c.In) (z0 : s0.size ≤ 140737488351232) (_x0 : -9223372036854775808 ≤ n0 ∧ n0 ≤ 9223372036854775807) (c1 : En) (z1 : c1.In) (w : World) (w0 : Ew w a0 len0 cap0 l0) (hL : Laid w) :
    Calls Tryd.prog 4 #[.agg #[.string s0, .int .i64 n0, .slice a0 len0 cap0], .agg #[.int .i64 c1.seq, .int .i64 c1.time, .int .i64 c1.kind, .string c1.path, .int .i64 c1.errno]] w fun e w' => e = .returned (.bool true) ∧ Below w.heap.size w w' := by
  have HLV : Hid (∀ V, Below w.heap.size w V → Calls Tryd.prog 10 #[] V fun e w' => e = .returned (.bool true) ∧ Below V.heap.size V w') := fun V hV => lives_any V (hL.below hV)
  obtain ⟨c0, c1, c2, c3, c4⟩ := c1
  obtain ⟨pb, hpb⟩ : ∃ pb, w.heap.size = pb := ⟨_, rfl⟩
  obtain ⟨V1, hV1, r1', hb1⟩ := box_au 24 (w := w) s0 n0 a0 len0 cap0
  obtain ⟨qb, hqb⟩ : ∃ qb, V1.heap.size = qb := ⟨_, rfl⟩
  obtain ⟨V2, hV2, r2', hb2⟩ := box_en (w := V1) c0 c1 c2 c3 c4
  rw [hpb] at r1'
  rw [hqb] at r2'
  have r12 := (hb2.block pb (lt_of_some r1')).trans r1'
  have hB2 : Below w.heap.size w V2 := hb1.trans (hb2.mono hb1.size)
  have HKK : Hid (∀ W, Below V2.heap.size V2 W → (W.heap[pb]? = some (.cells #[.string s0, .int .i64 n0, .slice a0 len0 cap0] 24 (0, 0)) ∧ W.heap[qb]? = some (.cells #[.int .i64 c0, .int .i64 c1, .int .i64 c2, .string c3, .int .i64 c4] 36 (0, 0))) ∧ Below w.heap.size w W) := fun W hW => ⟨⟨(hW.block pb (lt_of_some r12)).trans r12, (hW.block qb (lt_of_some r2')).trans r2'⟩, hB2.trans (hW.mono hB2.size)⟩
  obtain ⟨y0, y1, y2, _⟩ := row3 r12
  have HSM := small_au s0 n0 (w0.below hB2) z0 (fun c hc => (cA c hc).2.2.2.2)
  unfold YeTo at HSM
  have hpz : c3.size ≤ 140737488351232 := z1.2.2.2.2
  cases hsm : smallA l0 s0 with
  | false =>
    rw [hsm] at HSM
    clear hsm hL w0 cA r1' r2' r12 hb1 hb2 hB2
    go_enter Tryd.func4, Tryd.ntmps4
    go_wp2_with fail
    refine HSM.mono ?_
    rintro e V3 ⟨rfl, hb3⟩
    have HB : Hid (Below w.heap.size w V3) := (HKK.out V3 hb3).2
    clear HSM hb3 y0 y1 y2
    have HLX := HLV.out V3 HB.out
    go_wp2_with fail
    refine HLX.mono ?_
    rintro e VZ ⟨rfl, hbZ⟩
    have HZ : Hid (Below w.heap.size w VZ) := HB.out.trans (hbZ.mono HB.out.size)
    clear HLX hbZ
    go_wp2
    go_ret
    exact ⟨rfl, HZ.out⟩
  | true =>
    rw [hsm] at HSM
    by_cases hpl : 1000 < c3.size
    · have kpl : (1000 : Int) < (c3.size : Int) := by omega
      clear hsm hL w0 cA r1' r2' r12 hb1 hb2 hB2
      go_enter Tryd.func4, Tryd.ntmps4
      go_wp2_with fail
      refine HSM.mono ?_
      rintro e V3 ⟨rfl, hb3⟩
      have HB : Hid (Below w.heap.size w V3) := (HKK.out V3 hb3).2
      clear y0 y1 y2
      obtain ⟨_, _, _, y3, _⟩ := row5 (HKK.out V3 hb3).1.2
      clear HSM hb3
      have HLX := HLV.out V3 HB.out
      go_wp2_with fail
      refine HLX.mono ?_
      rintro e VZ ⟨rfl, hbZ⟩
      have HZ : Hid (Below w.heap.size w VZ) := HB.out.trans (hbZ.mono HB.out.size)
      clear HLX hbZ
      go_wp2
      go_ret
      exact ⟨rfl, HZ.out⟩
    have kpl : ¬ (1000 : Int) < (c3.size : Int) := by omega
    have hsmi := small_iff.1 hsm
    have hl0 := w0.len
    obtain ⟨⟨r1, r2⟩, hr⟩ : ∃ r, addA ⟨s0, n0, l0⟩ ⟨c0, c1, c2, c3, c4⟩ = r := ⟨_, rfl⟩
    obtain ⟨k1, hk1⟩ : ∃ k, r1.anchor = k := ⟨_, rfl⟩
    obtain ⟨m1, hm1⟩ : ∃ k, r1.last = k := ⟨_, rfl⟩
    obtain ⟨my, hmy⟩ : ∃ x, mayA ⟨s0, n0, l0⟩ = x := ⟨_, rfl⟩
    obtain ⟨D, hD⟩ : ∃ x, strOf (digA ⟨s0, n0, l0⟩) = x := ⟨_, rfl⟩
    have hrok : ∀ e ∈ r1.ents, e.ok = true := by
      by_cases hok : mayA ⟨s0, n0, l0⟩ = true ∧ (En.at ⟨c0, c1, c2, c3, c4⟩ (n0 + 1)).ok = true
      · have h9 := (add_facts hok.1 hok.2).1
        rw [hr] at h9
        exact run_ok (mayA_iff.1 h9).2.2.2.2
      · have h9 := add_no hok
        rw [hr] at h9
        obtain ⟨rfl, _⟩ := Prod.mk.inj h9
        intro e he
        cases he
    have HKD : Hid ((∀ e ∈ r1.ents, 0 ≤ e.kind ∧ e.kind ≤ 200) ∧ (∀ e ∈ r1.ents.map (bumpK 1), 0 ≤ e.kind ∧ e.kind ≤ 200)) := by
      have h1 : ∀ e ∈ r1.ents, 0 ≤ e.kind ∧ e.kind ≤ 100 := fun e he => by have := En.ok_iff.1 (hrok e he); omega
      refine ⟨fun e he => by have := h1 e he; omega, fun e he => ?_⟩
      obtain ⟨x, hx, rfl⟩ := List.mem_map.1 he
      have := h1 x hx
      show 0 ≤ x.kind + 1 ∧ x.kind + 1 ≤ 200
      omega
    have HMI : Hid (∀ W, Below w.heap.size w W → Calls Tryd.prog 16 #[.agg #[.string s0, .int .i64 n0, .slice a0 len0 cap0]] W fun e w' => ∃ (a' : Option Addr) (c' : Nat), e = .returned (.agg #[.string s0, .int .i64 n0, .slice a' len0 c']) ∧ w'.ownsRow W.heap.size 36 5 (.slice a' len0 c') len0 (enR l0) ∧ Below W.heap.size W w') := fun W hW => mine_any s0 n0 (w0.below hW) (by omega)
    have HAD : Hid (∀ W, Below w.heap.size w W → ∀ (ma : Option Addr) (mc : Nat), Ew W ma len0 mc l0 → Calls Tryd.prog 18 #[.agg #[.string s0, .int .i64 n0, .slice ma len0 mc], .agg #[.int .i64 c0, .int .i64 c1, .int .i64 c2, .string c3, .int .i64 c4]] W fun e w' => ∃ (a : Option Addr) (n c : Nat), e = .returned (.tuple #[.agg #[.string k1, .int .i64 m1, .slice a n c], .int .i64 (r2 : Int)]) ∧ w'.ownsRow W.heap.size 36 5 (.slice a n c) n (enR r1.ents) ∧ Below W.heap.size W w') := fun W hW ma mc h => by
      have h9 := aadd_own s0 n0 ⟨c0, c1, c2, c3, c4⟩ W h (hL.below hW)
      rw [hr] at h9
      unfold AoTo at h9
      simp only at h9
      rw [hk1, hm1] at h9
      exact h9
    have HRA : Hid (∀ W, Below w.heap.size w W → Calls Tryd.prog 19 #[.agg #[.string s0, .int .i64 n0, .slice a0 len0 cap0], .agg #[.int .i64 c0, .int .i64 c1, .int .i64 c2, .string c3, .int .i64 c4]] W fun e w' => ∃ (a : Option Addr) (n c : Nat), e = .returned (.tuple #[.agg #[.string k1, .int .i64 m1, .slice a n c], .int .i64 (r2 : Int)]) ∧ Nw W.heap.size w' a n c r1.ents ∧ Below W.heap.size W w') := fun W hW => by
      have h9 := radd_any s0 n0 ⟨c0, c1, c2, c3, c4⟩ W (w0.below hW)
      rw [hr] at h9
      unfold AuTo at h9
      simp only at h9
      rw [hk1, hm1] at h9
      exact h9
    have HDM : Hid (∀ W, Below w.heap.size w W → ∀ (ma : Option Addr) (mc : Nat), Ew W ma len0 mc l0 → Calls Tryd.prog 20 #[.agg #[.string s0, .int .i64 n0, .slice ma len0 mc]] W fun e w' => e = .returned (.string D) ∧ Below W.heap.size W w') := fun W hW ma mc h => by
      have h9 := adig_any s0 n0 h (hL.below hW)
      unfold StTo at h9
      rw [hD] at h9
      exact h9
    have HRM : Hid (∀ W, Below w.heap.size w W → Calls Tryd.prog 17 #[.agg #[.string s0, .int .i64 n0, .slice a0 len0 cap0]] W fun e w' => e = .returned (.bool my) ∧ Below W.heap.size W w') := fun W hW => by
      have h9 := rmay_any s0 n0 (w0.below hW)
      rw [hmy] at h9
      exact h9
    have HCH : Hid (my = true → ∀ W, Below w.heap.size w W → Calls Tryd.prog 21 #[.string s0, .slice a0 len0 cap0] W fun e w' => e = .returned (.string D) ∧ Below W.heap.size W w') := fun hmt W hW => by
      have hma : mayA ⟨s0, n0, l0⟩ = true := by rw [hmy]; exact hmt
      have hmi := mayA_iff.1 hma
      simp only at hmi
      have h9 := rch_any s0 W (w0.below hW) (by omega) (by omega) (run_ok hmi.2.2.2.2)
      rw [show chA s0.data.toList l0 = digA ⟨s0, n0, l0⟩ by unfold digA; rw [if_pos hma]] at h9
      unfold StTo at h9
      rw [hD] at h9
      exact h9
    have HDN : Hid (my = false → D = ⟨#[]⟩) := fun hmf => by
      rw [← hD]
      unfold digA
      rw [if_neg (by rw [hmy, hmf]; decide)]
      rfl
    have HW0 : Hid (∀ W, Below w.heap.size w W → Rw (fun x => x < w.heap.size) W 36 5 a0 len0 cap0 (enR l0)) := fun W hW => (Rw.mono w0 (fun x _ hx => hx)).below hW
    have hee : ((r2 : Int) == (r2 : Int)) = true := by simp
    have hdd : (D.toList == D.toList) = true := by simp
    clear hsm hsmi hl0 hL w0 cA r1' r2' r12 hb1 hb2 hB2 hr hk1 hm1 hmy hD hrok
    go_enter Tryd.func4, Tryd.ntmps4
    go_wp2_with fail
    refine HSM.mono ?_
    rintro e V3 ⟨rfl, hb3⟩
    have H3 : Hid (Below V2.heap.size V2 V3) := hb3
    clear y0 y1 y2
    have hk3 := HKK.out V3 hb3
    obtain ⟨y0, y1, y2, _⟩ := row3 hk3.1.1
    obtain ⟨_, _, _, y3, _⟩ := row5 hk3.1.2
    have HM3 := HMI.out V3 hk3.2
    clear HSM hb3 hk3
    go_wp2_with fail
    refine HM3.mono ?_
    rintro e V4 ⟨ma, mc, rfl, hown4, hb4⟩
    obtain ⟨mb, hmb⟩ : ∃ x, V4.heap.size = x := ⟨_, rfl⟩
    obtain ⟨U4, hU4⟩ : ∃ x, V4.alloc (.cells #[.string ⟨#[]⟩, .int .i64 0, .slice none 0 0] 27) = x := ⟨_, rfl⟩
    have rU4 : U4.heap[mb]? = some (.cells #[.string ⟨#[]⟩, .int .i64 0, .slice none 0 0] 27 (0, 0)) := by rw [← hU4, ← hmb]; exact heap_alloc_new _ _
    have bU4 : Below V4.heap.size V4 U4 := by rw [← hU4]; exact (Below.refl _ _).alloc (Nat.le_refl _) _
    obtain ⟨mb0, mb1, mb2, mbz⟩ := row3 rU4
    have mbf0 := mbz 0
    have mbf1 := mbz 1
    have mbf2 := mbz 2
    obtain ⟨V5, hV5⟩ : ∃ x, ((U4.setCell ⟨mb, 0, none⟩ (.string s0)).setCell ⟨mb, 1, none⟩ (.int .i64 n0)).setCell ⟨mb, 2, none⟩ (.slice ma len0 mc) = x := ⟨_, rfl⟩
    have rV5 : V5.heap[mb]? = some (.cells #[.string s0, .int .i64 n0, .slice ma len0 mc] 27 (0, 0)) := by rw [← hV5]; exact set3 rU4 _ _ _
    have bV5 : Below V4.heap.size V4 V5 := by rw [← hV5]; exact below3s bU4 (Nat.le_of_eq hmb) _ _ _
    clear rU4 bU4 mbz
    have hB5 : Below V3.heap.size V3 V5 := hb4.trans (bV5.mono hb4.size)
    have hBV5 : Below V2.heap.size V2 V5 := H3.out.trans (hB5.mono H3.out.size)
    have hk5 := HKK.out V5 hBV5
    clear y0 y1 y2 y3
    obtain ⟨y0, y1, y2, _⟩ := row3 hk5.1.1
    obtain ⟨d0, d1, d2, d3, d4, _⟩ := row5 hk5.1.2
    obtain ⟨t0, t1, t2, _⟩ := row3 rV5
    have hE5 : Rw (fun x => V3.heap.size ≤ x ∧ x < V4.heap.size) V5 36 5 ma len0 mc (enR l0) := (Rw.mono (Rw.own hown4 (fun x hx => hx)) (fun x hx hl => ⟨hx, hl⟩)).below bV5
    have HA5 := HAD.out V5 hk5.2 ma mc (Rw.mono hE5 (fun _ _ _ => trivial))
    have H5 : Hid (Below V2.heap.size V2 V5 ∧ V5.heap[mb]? = some (.cells #[.string s0, .int .i64 n0, .slice ma len0 mc] 27 (0, 0)) ∧ Rw (fun x => V3.heap.size ≤ x ∧ x < V4.heap.size) V5 36 5 ma len0 mc (enR l0) ∧ V4.heap.size = mb ∧ V3.heap.size ≤ V4.heap.size ∧ V4.heap.size ≤ V5.heap.size) := ⟨hBV5, rV5, hE5, hmb, hb4.size, bV5.size⟩
    clear HM3 hown4 hb4 rV5 bV5 hB5 hBV5 hk5 hE5
    go_wp2_with fail
    clear mb0 mb1 mb2 mbf0 mbf1 mbf2
    refine HA5.mono ?_
    rintro e V6 ⟨xa, xn, xc, rfl, hown6, hb6⟩
    obtain ⟨xb, hxb⟩ : ∃ x, V6.heap.size = x := ⟨_, rfl⟩
    obtain ⟨U6, hU6⟩ : ∃ x, V6.alloc (.cells #[.string ⟨#[]⟩, .int .i64 0, .slice none 0 0] 27) = x := ⟨_, rfl⟩
    have rU6 : U6.heap[xb]? = some (.cells #[.string ⟨#[]⟩, .int .i64 0, .slice none 0 0] 27 (0, 0)) := by rw [← hU6, ← hxb]; exact heap_alloc_new _ _
    have bU6 : Below V6.heap.size V6 U6 := by rw [← hU6]; exact (Below.refl _ _).alloc (Nat.le_refl _) _
    obtain ⟨xb0, xb1, xb2, xbz⟩ := row3 rU6
    have xbf0 := xbz 0
    have xbf1 := xbz 1
    have xbf2 := xbz 2
    obtain ⟨V7, hV7⟩ : ∃ x, ((U6.setCell ⟨xb, 0, none⟩ (.string k1)).setCell ⟨xb, 1, none⟩ (.int .i64 m1)).setCell ⟨xb, 2, none⟩ (.slice xa xn xc) = x := ⟨_, rfl⟩
    have rV7 : V7.heap[xb]? = some (.cells #[.string k1, .int .i64 m1, .slice xa xn xc] 27 (0, 0)) := by rw [← hV7]; exact set3 rU6 _ _ _
    have bV7 : Below V6.heap.size V6 V7 := by rw [← hV7]; exact below3s bU6 (Nat.le_of_eq hxb) _ _ _
    clear rU6 bU6 xbz
    have hB7 : Below V5.heap.size V5 V7 := hb6.trans (bV7.mono hb6.size)
    have hBV7 : Below V2.heap.size V2 V7 := H5.out.1.trans (hB7.mono H5.out.1.size)
    have hk7 := HKK.out V7 hBV7
    clear y0 y1 y2 d0 d1 d2 d3 d4 t0 t1 t2
    obtain ⟨y0, y1, y2, _⟩ := row3 hk7.1.1
    obtain ⟨d0, d1, d2, d3, d4, _⟩ := row5 hk7.1.2
    have HR7 := HRA.out V7 hk7.2
    have hxl := (Ew.own hown6).len
    have hxm := (Ew.own hown6).max
    have H7 : Hid (Below V2.heap.size V2 V7 ∧ Below V5.heap.size V5 V7 ∧ V7.heap[xb]? = some (.cells #[.string k1, .int .i64 m1, .slice xa xn xc] 27 (0, 0)) ∧ V7.ownsRow V5.heap.size 36 5 (.slice xa xn xc) xn (enR r1.ents) ∧ V6.heap.size = xb ∧ V5.heap.size ≤ V6.heap.size ∧ V6.heap.size ≤ V7.heap.size ∧ (∀ ad, xa = some ad → ad.block < V6.heap.size)) := ⟨hBV7, hB7, rV7, own_keep hown6 (fun j hj => bV7.block j (hown6.lt j hj).2), hxb, hb6.size, bV7.size, fun ad had => (hown6.lt ad.block (by rw [had]; rfl)).2⟩
    have HXN : Hid (r1.ents.length = xn) := hxl
    clear HA5 hown6 hb6 rV7 bV7 hB7 hBV7 hk7 hxl
    go_wp2_with fail
    clear xb0 xb1 xb2 xbf0 xbf1 xbf2
    refine HR7.mono ?_
    rintro e V8 ⟨ya, yn, yc, rfl, hnw, hb8⟩
    obtain ⟨VY, hVY⟩ : ∃ x, x = V7 := ⟨_, rfl⟩
    obtain ⟨yb, hyb⟩ : ∃ x, V8.heap.size = x := ⟨_, rfl⟩
    obtain ⟨U8, hU8⟩ : ∃ x, V8.alloc (.cells #[.string ⟨#[]⟩, .int .i64 0, .slice none 0 0] 24) = x := ⟨_, rfl⟩
    have rU8 : U8.heap[yb]? = some (.cells #[.string ⟨#[]⟩, .int .i64 0, .slice none 0 0] 24 (0, 0)) := by rw [← hU8, ← hyb]; exact heap_alloc_new _ _
    have bU8 : Below V8.heap.size V8 U8 := by rw [← hU8]; exact (Below.refl _ _).alloc (Nat.le_refl _) _
    obtain ⟨yb0, yb1, yb2, ybz⟩ := row3 rU8
    have ybf0 := ybz 0
    have ybf1 := ybz 1
    have ybf2 := ybz 2
    obtain ⟨V9, hV9⟩ : ∃ x, ((U8.setCell ⟨yb, 0, none⟩ (.string k1)).setCell ⟨yb, 1, none⟩ (.int .i64 m1)).setCell ⟨yb, 2, none⟩ (.slice ya yn yc) = x := ⟨_, rfl⟩
    have rV9 : V9.heap[yb]? = some (.cells #[.string k1, .int .i64 m1, .slice ya yn yc] 24 (0, 0)) := by rw [← hV9]; exact set3 rU8 _ _ _
    have bV9 : Below V8.heap.size V8 V9 := by rw [← hV9]; exact below3s bU8 (Nat.le_of_eq hyb) _ _ _
    clear rU8 bU8 ybz
    have hB9 : Below V7.heap.size V7 V9 := hb8.trans (bV9.mono hb8.size)
    have hBV9 : Below V2.heap.size V2 V9 := H7.out.1.trans (hB9.mono H7.out.1.size)
    have hB59 : Below V5.heap.size V5 V9 := H7.out.2.1.trans (hB9.mono H7.out.2.1.size)
    have hk9 := HKK.out V9 hBV9
    clear y0 y1 y2 d0 d1 d2 d3 d4
    have rm9 := (hB59.block mb (lt_of_some H5.out.2.1)).trans H5.out.2.1
    obtain ⟨t0, t1, t2, _⟩ := row3 rm9
    have HD9 := HDM.out V9 hk9.2 ma mc (Rw.mono (H5.out.2.2.1.below hB59) (fun _ _ _ => trivial))
    have H9 : Hid (Below V2.heap.size V2 V9 ∧ Below V5.heap.size V5 V9 ∧ Below V7.heap.size V7 V9 ∧ V9.heap[yb]? = some (.cells #[.string k1, .int .i64 m1, .slice ya yn yc] 24 (0, 0)) ∧ Nw V7.heap.size V9 ya yn yc r1.ents ∧ V8.heap.size = yb ∧ V7.heap.size ≤ V8.heap.size ∧ V8.heap.size ≤ V9.heap.size ∧ VY = V7) := ⟨hBV9, hB59, hB9, rV9, hnw.below bV9, hyb, hb8.size, bV9.size, hVY⟩
    clear HR7 hnw hb8 rV9 bV9 hB9 hBV9 hB59 hk9 rm9 hVY
    go_wp2_with fail
    clear yb0 yb1 yb2 ybf0 ybf1 ybf2
    refine HD9.mono ?_
    rintro e V10 ⟨rfl, hb10⟩
    have H10 : Hid (Below V9.heap.size V9 V10) := hb10
    clear HD9 hb10 t0 t1 t2
    obtain ⟨y0, y1, y2, _⟩ := row3 (HKK.out V10 (H9.out.1.trans (H10.out.mono H9.out.1.size))).1.1
    have HPW : Hid (∀ W, Below V10.heap.size V10 W → Below V9.heap.size V9 W ∧ Below w.heap.size w W ∧ W.heap[pb]? = some (.cells #[.string s0, .int .i64 n0, .slice a0 len0 cap0] 24 (0, 0))) := fun W hW => by
      have h9 := H10.out.trans (hW.mono H10.out.size)
      have h8 := HKK.out W (H9.out.1.trans (h9.mono H9.out.1.size))
      exact ⟨h9, h8.2, h8.1.1⟩
    go_upto_region 7 with fail
    go_cut [59] from 14 (fun v wx => v = .bool false ∧ Below V10.heap.size V10 wx)
    case first =>
      have HM10 := HRM.out V10 (HPW.out V10 (Below.refl _ _)).2.1
      cases my with
      | true =>
        go_wp2_with fail
        refine HM10.mono ?_
        rintro e V11 ⟨rfl, hb11⟩
        have HC11 := HCH.out (by first | rfl | trivial) V11 (HPW.out V11 hb11).2.1
        have H11 : Hid (Below V10.heap.size V10 V11) := hb11
        clear y0 y1 y2
        obtain ⟨y0, y1, y2, _⟩ := row3 (HPW.out V11 hb11).2.2
        clear HM10 hb11
        go_wp2_with fail
        refine HC11.mono ?_
        rintro e V12 ⟨rfl, hb12⟩
        have hB12 : Below V10.heap.size V10 V12 := H11.out.trans (hb12.mono H11.out.size)
        have H12 : Hid (Below V10.heap.size V10 V12) := hB12
        have HM12 := HRM.out V12 (HPW.out V12 hB12).2.1
        clear y0 y1 y2
        obtain ⟨y0, y1, y2, _⟩ := row3 (HPW.out V12 hB12).2.2
        clear HC11 hb12 hB12
        go_wp2_with fail
        refine HM12.mono ?_
        rintro e V13 ⟨rfl, hb13⟩
        have HE : Hid (Below V10.heap.size V10 V13) := H12.out.trans (hb13.mono H12.out.size)
        clear HM12 hb13
        go_wp2_with fail
        go_meet
        case rel => exact ⟨rfl, HE.out⟩
      | false =>
        obtain rfl := HDN.out (by first | rfl | trivial)
        go_wp2_with fail
        refine HM10.mono ?_
        rintro e V11 ⟨rfl, hb11⟩
        have HM11 := HRM.out V11 (HPW.out V11 hb11).2.1
        have H11 : Hid (Below V10.heap.size V10 V11) := hb11
        clear y0 y1 y2
        obtain ⟨y0, y1, y2, _⟩ := row3 (HPW.out V11 hb11).2.2
        clear HM10 hb11
        go_wp2_with fail
        refine HM11.mono ?_
        rintro e V12 ⟨rfl, hb12⟩
        have HE : Hid (Below V10.heap.size V10 V12) := H11.out.trans (hb12.mono H11.out.size)
        clear HM11 hb12
        go_wp2_with fail
        go_meet
        case rel => exact ⟨rfl, HE.out⟩
    case rest =>
    obtain ⟨rfl, hbc⟩ := hcut
    have hw := HPW.out wc hbc
    have HV13 : Hid (Below V9.heap.size V9 wc ∧ Below w.heap.size w wc) := ⟨hw.1, hw.2.1⟩
    have h59 : Below V5.heap.size V5 wc := H9.out.2.1.trans (hw.1.mono H9.out.2.1.size)
    have h79 : Below V7.heap.size V7 wc := H9.out.2.2.1.trans (hw.1.mono H9.out.2.2.1.size)
    have HPBX : Hid (∀ W, Below V9.heap.size V9 W → W.heap[pb]? = some (.cells #[.string s0, .int .i64 n0, .slice a0 len0 cap0] 24 (0, 0))) := fun W hW => (HKK.out W (H9.out.1.trans (hW.mono H9.out.1.size))).1.1
    have HMBX : Hid (∀ W, Below V9.heap.size V9 W → W.heap[mb]? = some (.cells #[.string s0, .int .i64 n0, .slice ma len0 mc] 27 (0, 0))) := fun W hW => by
      have h9 := H9.out.2.1.trans (hW.mono H9.out.2.1.size)
      exact (h9.block mb (lt_of_some H5.out.2.1)).trans H5.out.2.1
    have HXBX : Hid (∀ W, Below V9.heap.size V9 W → W.heap[xb]? = some (.cells #[.string k1, .int .i64 m1, .slice xa xn xc] 27 (0, 0))) := fun W hW => by
      have h9 := H9.out.2.2.1.trans (hW.mono H9.out.2.2.1.size)
      exact (h9.block xb (lt_of_some H7.out.2.2.1)).trans H7.out.2.2.1
    have HMR : Hid ((∀ W, Below V9.heap.size V9 W → Rw (fun x => V3.heap.size ≤ x ∧ x < V4.heap.size) W 36 5 ma len0 mc (enR l0)) ∧ (∀ W, Below V9.heap.size V9 W → Rw (fun x => x < w.heap.size) W 36 5 a0 len0 cap0 (enR l0))) := ⟨fun W hW => H5.out.2.2.1.below (H9.out.2.1.trans (hW.mono H9.out.2.1.size)), fun W hW => HW0.out W (HKK.out W (H9.out.1.trans (hW.mono H9.out.1.size))).2⟩
    have HYR0 : Hid (∀ W, Below V9.heap.size V9 W → Rw (fun x => VY.heap.size ≤ x) W 36 5 ya yn yc (enR r1.ents)) := fun W hW => by rw [H9.out.2.2.2.2.2.2.2.2]; exact H9.out.2.2.2.2.1.below hW
    have HYB0 : Hid (∀ W, Below V9.heap.size V9 W → W.heap[yb]? = some (.cells #[.string k1, .int .i64 m1, .slice ya yn yc] 24 (0, 0))) := fun W hW => (hW.block yb (lt_of_some H9.out.2.2.2.1)).trans H9.out.2.2.2.1
    have hso := H7.out.2.2.2.1
    obtain ⟨g, hg, hxg⟩ : ∃ g, ((V5.heap.size ≤ g ∧ g < V6.heap.size) ∨ wc.heap.size ≤ g) ∧ (0 < xn → xa = some ⟨g, 0, none⟩) := by
      rcases hso.2 with ⟨e1, e2⟩ | ⟨g, cap, cur, e1, e2, e3, _⟩
      · exact ⟨wc.heap.size, .inr (Nat.le_refl _), fun h => by omega⟩
      · cases e1
        exact ⟨g, .inl ⟨e2, H7.out.2.2.2.2.2.2.2 ⟨g, 0, none⟩ rfl⟩, fun _ => rfl⟩
    have hwsz := HKK.out V5 H5.out.1
    have HSZ : Hid (w.heap.size ≤ V5.heap.size ∧ V4.heap.size ≤ V5.heap.size ∧ V3.heap.size ≤ V4.heap.size ∧ V5.heap.size ≤ V6.heap.size ∧ V6.heap.size ≤ V7.heap.size ∧ V7.heap.size ≤ wc.heap.size ∧ VY.heap.size = V7.heap.size ∧ w.heap.size ≤ wc.heap.size ∧ w.heap.size = pb) := ⟨hwsz.2.size, H5.out.2.2.2.2.2, H5.out.2.2.2.2.1, H7.out.2.2.2.2.2.1, H7.out.2.2.2.2.2.2.1, h79.size, by rw [H9.out.2.2.2.2.2.2.2.2], hw.2.1.size, hpb⟩
    have HG : Hid ((V5.heap.size ≤ g ∧ g < V6.heap.size) ∨ wc.heap.size ≤ g) := hg
    have HXG : Hid (0 < xn → xa = some ⟨g, 0, none⟩) := hxg
    have HXB : Hid (pb < V5.heap.size ∧ mb < V5.heap.size ∧ xb = V6.heap.size ∧ xb < wc.heap.size ∧ V7.heap.size ≤ yb ∧ yb < wc.heap.size) := ⟨lt_of_some hwsz.1.1, lt_of_some H5.out.2.1, H7.out.2.2.2.2.1.symm, Nat.lt_of_lt_of_le (lt_of_some H7.out.2.2.1) h79.size, by have := H9.out.2.2.2.2.2.1; have := H9.out.2.2.2.2.2.2.1; omega, Nat.lt_of_lt_of_le (lt_of_some H9.out.2.2.2.1) hw.1.size⟩
    have HL11 : Hid (wc.ownsRow V5.heap.size 36 5 (.slice xa xn xc) xn (enR r1.ents) ∧ wc.heap[xb]? = some (.cells #[.string k1, .int .i64 m1, .slice xa xn xc] 27 (0, 0))) := ⟨own_keep hso (fun j hj => h79.block j (hso.lt j hj).2), HXBX.out wc hw.1⟩
    have HTM : Hid (∀ W, Calls Tryd.prog 13 #[.agg #[.string s0, .int .i64 n0, .slice ma len0 mc]] W fun e w' => e = .returned (.agg #[.string s0, .int .i64 n0, .slice ma len0 mc]) ∧ Below W.heap.size W w') := fun W => theirs_any s0 n0 ma len0 mc
    clear hbc hw h59 h79 hso hg hxg hwsz hpb hqb hmb hxb hyb y0 y1 y2 hdd
    go_wp2
    go_loopw [11] (fun v wr => ∃ i : Nat, i ≤ xn ∧ v = .int .i64 i ∧ wr.ownsRow V5.heap.size 36 5 (.slice xa xn xc) xn (enR (bumpL 1 i r1.ents)) ∧ Ex g wc wr) (fun v _ => xn - (intOf v).toNat)
    case atStart => exact ⟨0, by omega, rfl, by rw [bump_zero]; exact HL11.out.1, Ex.refl _ _⟩
    case round =>
    obtain ⟨i, hi, rfl, hown, hex⟩ := hrel
    obtain ⟨x0, x1, x2, _⟩ := row3 ((hex.2 xb (lt_of_some HL11.out.2) (by have := HXB.out; have := HG.out; have := HSZ.out; omega)).trans HL11.out.2)
    by_cases hlt : i < xn
    · have kk : (i : Int) < (xn : Int) := by omega
      obtain rfl : xa = some ⟨g, 0, none⟩ := HXG.out (by omega)
      obtain ⟨⟨e0, e1, e2, e3, e4⟩, hei⟩ : ∃ e, (r1.ents)[i]? = some e := ⟨_, List.getElem?_eq_getElem (by have := HXN.out; simp; omega)⟩
      have hbg := bump_get 1 hei
      have hek := HKD.out.1 _ (List.mem_of_getElem? hei)
      simp only at hek
      have w1 : IntKind.i64.wrap (e2 + 1) = e2 + 1 := by rw [IntKind.wrap_i64]; omega
      obtain ⟨_, _, _, c2, _⟩ : True ∧ True ∧ True ∧ wr.cell? ⟨g, i * 5 + 2, none⟩ = some (.int .i64 e2) ∧ True := by
        obtain ⟨b', o', heq, _, hc⟩ := (Ew.own hown).at (by omega)
        obtain ⟨rfl, rfl⟩ : g = b' ∧ 0 = o' := by
          have := Option.some.inj heq
          exact ⟨congrArg Addr.block this, congrArg Addr.off this⟩
        have h9 := (hc i _ hbg).2.2.1
        rw [Nat.zero_add] at h9
        exact ⟨trivial, trivial, trivial, h9, trivial⟩
      have fz := own_fz hown (i * 5 + 2)
      obtain ⟨W8, hW8⟩ : ∃ x, wr.setCell ⟨g, i * 5 + 2, none⟩ (.int .i64 (e2 + 1)) = x := ⟨_, rfl⟩
      have HE : Hid (W8.ownsRow V5.heap.size 36 5 (.slice (some ⟨g, 0, none⟩) xn xc) xn (enR (bumpL 1 (i + 1) r1.ents)) ∧ Ex g wc W8) := by
        rw [← hW8]
        refine ⟨?_, hex.set _ _⟩
        have h9 := own_kind hown hbg (e2 + 1)
        have h8 := bump_set 1 hei
        have h7 : bumpK 1 ⟨e0, e1, e2, e3, e4⟩ = ⟨e0, e1, e2 + 1, e3, e4⟩ := rfl
        rw [h7] at h8
        rw [← h8]
        exact h9
      clear hown hex hei hbg hek
      go_wp2
      exact ⟨⟨i + 1, by omega, by go_num, HE.out⟩, by simp [intOf]; omega⟩
    · obtain rfl : i = xn := by omega
      have kk : ¬ (i : Int) < (i : Int) := by omega
      rw [bump_all 1 (by have := HXN.out; simp; omega)] at hown
      have hBw : Below w.heap.size w wr := HV13.out.2.trans (hex.below (by have := HG.out; have := HSZ.out; omega) HV13.out.2.size)
      have gM : ∀ W, Below wr.heap.size wr W → Ew W ma len0 mc l0 ∧ Ew W a0 len0 cap0 l0 := fun W hW => by
        have h9 : Rw (fun x => x ≠ g) wc 36 5 ma len0 mc (enR l0) := Rw.mono (HMR.out.1 wc HV13.out.1) (fun x hx hl => by have := HG.out; have := HSZ.out; omega)
        have h8 : Rw (fun x => x ≠ g) wc 36 5 a0 len0 cap0 (enR l0) := Rw.mono (HMR.out.2 wc HV13.out.1) (fun x hx hl => by have := HG.out; have := HSZ.out; omega)
        exact ⟨Ew.below (Rw.mono (Rw.keep h9 hex.1.size (fun b hb hl => hex.2 b hl hb)) (fun _ _ _ => trivial)) hW, Ew.below (Rw.mono (Rw.keep h8 hex.1.size (fun b hb hl => hex.2 b hl hb)) (fun _ _ _ => trivial)) hW⟩
      have rm0 := HMBX.out wc HV13.out.1
      have rp0 := HPBX.out wc HV13.out.1
      have rx0 := HXBX.out wc HV13.out.1
      have rm := (hex.2 mb (lt_of_some rm0) (by have := HXB.out; have := HG.out; have := HSZ.out; omega)).trans rm0
      have rp := (hex.2 pb (lt_of_some rp0) (by have := HXB.out; have := HG.out; have := HSZ.out; omega)).trans rp0
      have rx := (hex.2 xb (lt_of_some rx0) (by have := HXB.out; have := HG.out; have := HSZ.out; omega)).trans rx0
      have HS : Hid (∀ W, Below wr.heap.size wr W → ((W.cell? ⟨mb, 0, none⟩ = some (.string s0) ∧ W.cell? ⟨mb, 1, none⟩ = some (.int .i64 n0) ∧ W.cell? ⟨mb, 2, none⟩ = some (.slice ma len0 mc)) ∧ (W.cell? ⟨pb, 0, none⟩ = some (.string s0) ∧ W.cell? ⟨pb, 1, none⟩ = some (.int .i64 n0) ∧ W.cell? ⟨pb, 2, none⟩ = some (.slice a0 len0 cap0))) ∧ Below w.heap.size w W) := fun W hW => by
        obtain ⟨g0, g1, g2, _⟩ := row3 ((hW.block mb (lt_of_some rm)).trans rm)
        obtain ⟨f0, f1, f2, _⟩ := row3 ((hW.block pb (lt_of_some rp)).trans rp)
        exact ⟨⟨⟨g0, g1, g2⟩, f0, f1, f2⟩, hBw.trans (hW.mono hBw.size)⟩
      have HSA : Hid (∀ W, Below wr.heap.size wr W → Calls Tryd.prog 12 #[.agg #[.string s0, .int .i64 n0, .slice ma len0 mc], .agg #[.string s0, .int .i64 n0, .slice a0 len0 cap0]] W fun e w' => e = .returned (.bool true) ∧ Below W.heap.size W w') := fun W hW => by
        have h9 := same_au s0 n0 s0 n0 (gM W hW).1 (gM W hW).2
        rw [sameA_self] at h9
        exact h9
      have HYW : Hid (∀ W, Below wr.heap.size wr W → Rw (fun x => x ≠ g) W 36 5 ya yn yc (enR r1.ents) ∧ W.heap[yb]? = some (.cells #[.string k1, .int .i64 m1, .slice ya yn yc] 24 (0, 0))) := fun W hW => by
        have h9 : Rw (fun x => x ≠ g) wc 36 5 ya yn yc (enR r1.ents) := Rw.mono (HYR0.out wc HV13.out.1) (fun x hx hl => by have := HG.out; have := HSZ.out; omega)
        have h8 := (Rw.keep h9 hex.1.size (fun b hb hl => hex.2 b hl hb)).below hW
        have ry0 := HYB0.out wc HV13.out.1
        have ry := (hex.2 yb (lt_of_some ry0) (by have := HXB.out; have := HG.out; have := HSZ.out; omega)).trans ry0
        exact ⟨h8, (hW.block yb (lt_of_some ry)).trans ry⟩
      have HXO : Hid (wr.ownsRow V5.heap.size 36 5 (.slice xa i xc) i (enR (r1.ents.map (bumpK 1))) ∧ wr.heap[xb]? = some (.cells #[.string k1, .int .i64 m1, .slice xa i xc] 27 (0, 0)) ∧ Ex g wc wr) := ⟨hown, rx, hex⟩
      clear hown hex gM rm0 rp0 rx0 rm rp rx hBw
      go_wp2
      clear x0 x1 x2
      refine wp_region_held_drew (S := fun W => (W.cell? ⟨mb, 0, none⟩ = some (.string s0) ∧ W.cell? ⟨mb, 1, none⟩ = some (.int .i64 n0) ∧ W.cell? ⟨mb, 2, none⟩ = some (.slice ma len0 mc)) ∧ (W.cell? ⟨pb, 0, none⟩ = some (.string s0) ∧ W.cell? ⟨pb, 1, none⟩ = some (.int .i64 n0) ∧ W.cell? ⟨pb, 2, none⟩ = some (.slice a0 len0 cap0))) (by kernel_rfl) ((HS.out wr.drew (Below.refl _ wr).drew).1) (fun hHeld => ?_)
      have Ha_0 : Hid (Below wr.heap.size wr wr.drew) := (Below.refl _ wr).drew
      refine wpAnyH_take (i := 0) (v := ?va_0) rfl (by kernel_rfl) (by kernel_rfl) (by kernel_rfl) (fun _ _ _ h => h) (Or.inl ⟨by first | kernel_rfl | rfl, ?ya_0⟩) hHeld ?ra_0
      case ya_0 => (intro W hSW; (try dsimp only at hSW); go_simp; (try with_reducible rfl))
      change wpAnyH _ _ _ _ _ _ _ (Act.put _ (some 76) _) _
      simp only [Act.put, List.setIfInBounds_toArray, List.set_cons_zero, List.set_cons_succ]
      refine wpAnyH_take (i := 2) (v := ?va_2) rfl (by kernel_rfl) (by kernel_rfl) (by kernel_rfl) (fun _ _ _ h => h) (Or.inl ⟨by first | kernel_rfl | rfl, ?ya_2⟩) hHeld ?ra_2
      case ya_2 => (intro W hSW; (try dsimp only at hSW); go_simp; (try with_reducible rfl))
      change wpAnyH _ _ _ _ _ _ _ (Act.put _ (some 78) _) _
      simp only [Act.put, List.setIfInBounds_toArray, List.set_cons_zero, List.set_cons_succ]
      refine wpAnyH_ready (rs := [1]) (by kernel_rfl) (by simp) ?_
      refine AllReadyH.cons rfl (fun K hK => ?_) AllReadyH.nil
      go_simp
      refine (HTM.out wr.drew).mono ?_
      rintro e X1 ⟨rfl, hbX1⟩
      refine hK.out _ _ ((HS.out X1 (Ha_0.out.trans (hbX1.mono Ha_0.out.size))).1) (fun hHeld => ?_)
      clear hK K
      try simp only [Act.put, List.setIfInBounds_toArray, List.set_cons_zero, List.set_cons_succ]
      have HX1 : Hid (Below wr.heap.size wr X1) := (Ha_0.out.trans (hbX1.mono Ha_0.out.size))
      clear hbX1
      refine wpAnyH_ready (rs := [3]) (by kernel_rfl) (by simp) ?_
      refine AllReadyH.cons rfl (fun K hK => ?_) AllReadyH.nil
      go_simp
      refine (HSA.out X1 HX1.out).mono ?_
      rintro e X2 ⟨rfl, hbX2⟩
      refine hK.out _ _ ((HS.out X2 (HX1.out.trans (hbX2.mono HX1.out.size))).1) (fun hHeld => ?_)
      clear hK K
      try simp only [Act.put, List.setIfInBounds_toArray, List.set_cons_zero, List.set_cons_succ]
      have HX2 : Hid (Below wr.heap.size wr X2) := (HX1.out.trans (hbX2.mono HX1.out.size))
      clear hbX2
      refine wpAnyH_take (i := 4) (v := ?va_4) rfl (by kernel_rfl) (by kernel_rfl) (by kernel_rfl) (fun _ _ _ h => h) (Or.inl ⟨by first | kernel_rfl | rfl, ?ya_4⟩) hHeld ?ra_4
      case ya_4 => (intro W hSW; (try dsimp only at hSW); go_simp; (try with_reducible rfl))
      change wpAnyH _ _ _ _ _ _ _ (Act.put _ (some 12) _) _
      simp only [Act.put, List.setIfInBounds_toArray, List.set_cons_zero, List.set_cons_succ]
      refine wpAnyH_done (by kernel_rfl) ?_ _
      have HX2B : Hid (Below wr.heap.size wr X2 ∧ Below w.heap.size w X2) := ⟨HX2.out, (HS.out X2 HX2.out).2⟩
      have HL13 : Hid (X2.ownsRow V5.heap.size 36 5 (.slice xa i xc) i (enR (r1.ents.map (bumpK 1))) ∧ X2.heap[xb]? = some (.cells #[.string k1, .int .i64 m1, .slice xa i xc] 27 (0, 0))) := ⟨own_keep HXO.out.1 (fun j hj => HX2.out.block j (HXO.out.1.lt j hj).2), (HX2.out.block xb (lt_of_some HXO.out.2.1)).trans HXO.out.2.1⟩
      have HYR : Hid (∀ W, Below wr.heap.size wr W → Rw (fun x => x ≠ g) W 36 5 ya yn yc (enR r1.ents)) := fun W hW => (HYW.out W hW).1
      have HYB : Hid (∀ W, Below wr.heap.size wr W → W.heap[yb]? = some (.cells #[.string k1, .int .i64 m1, .slice ya yn yc] 24 (0, 0))) := fun W hW => (HYW.out W hW).2
      obtain ⟨x0, x1, x2, _⟩ := row3 HL13.out.2
      obtain ⟨xn, rfl⟩ : ∃ x, x = i := ⟨_, rfl⟩
      clear hi hlt kk
      obtain ⟨w9, hw9⟩ : ∃ x, x = wr := ⟨_, rfl⟩
      subst hw9
      go_wp2
      go_loopw [13] (fun v wr => ∃ i : Nat, i ≤ xn ∧ v = .int .i64 i ∧ wr.ownsRow V5.heap.size 36 5 (.slice xa xn xc) xn (enR (bumpL (-1) i (r1.ents.map (bumpK 1)))) ∧ Ex g X2 wr) (fun v _ => xn - (intOf v).toNat)
      case atStart => exact ⟨0, by omega, rfl, by rw [bump_zero]; exact HL13.out.1, Ex.refl _ _⟩
      case round =>
      obtain ⟨i, hi, rfl, hown, hex⟩ := hrel
      obtain ⟨x0, x1, x2, _⟩ := row3 ((hex.2 xb (lt_of_some HL13.out.2) (by have := HXB.out; have := HG.out; have := HSZ.out; omega)).trans HL13.out.2)
      by_cases hlt : i < xn
      · have kk : (i : Int) < (xn : Int) := by omega
        obtain rfl : xa = some ⟨g, 0, none⟩ := HXG.out (by omega)
        obtain ⟨⟨e0, e1, e2, e3, e4⟩, hei⟩ : ∃ e, ((r1.ents.map (bumpK 1)))[i]? = some e := ⟨_, List.getElem?_eq_getElem (by have := HXN.out; simp; omega)⟩
        have hbg := bump_get (-1) hei
        have hek := HKD.out.2 _ (List.mem_of_getElem? hei)
        simp only at hek
        have w1 : IntKind.i64.wrap (e2 - 1) = e2 - 1 := by rw [IntKind.wrap_i64]; omega
        obtain ⟨_, _, _, c2, _⟩ : True ∧ True ∧ True ∧ wr.cell? ⟨g, i * 5 + 2, none⟩ = some (.int .i64 e2) ∧ True := by
          obtain ⟨b', o', heq, _, hc⟩ := (Ew.own hown).at (by omega)
          obtain ⟨rfl, rfl⟩ : g = b' ∧ 0 = o' := by
            have := Option.some.inj heq
            exact ⟨congrArg Addr.block this, congrArg Addr.off this⟩
          have h9 := (hc i _ hbg).2.2.1
          rw [Nat.zero_add] at h9
          exact ⟨trivial, trivial, trivial, h9, trivial⟩
        have fz := own_fz hown (i * 5 + 2)
        obtain ⟨W8, hW8⟩ : ∃ x, wr.setCell ⟨g, i * 5 + 2, none⟩ (.int .i64 (e2 - 1)) = x := ⟨_, rfl⟩
        have HE : Hid (W8.ownsRow V5.heap.size 36 5 (.slice (some ⟨g, 0, none⟩) xn xc) xn (enR (bumpL (-1) (i + 1) (r1.ents.map (bumpK 1)))) ∧ Ex g X2 W8) := by
          rw [← hW8]
          refine ⟨?_, hex.set _ _⟩
          have h9 := own_kind hown hbg (e2 - 1)
          have h8 := bump_set (-1) hei
          have h7 : bumpK (-1) ⟨e0, e1, e2, e3, e4⟩ = ⟨e0, e1, e2 - 1, e3, e4⟩ := by unfold bumpK; simp only [En.mk.injEq, true_and, and_true]; omega
          rw [h7] at h8
          rw [← h8]
          exact h9
        clear hown hex hei hbg hek
        go_wp2
        exact ⟨⟨i + 1, by omega, by go_num, HE.out⟩, by simp [intOf]; omega⟩
      · obtain rfl : i = xn := by omega
        have kk : ¬ (i : Int) < (i : Int) := by omega
        rw [bump_all (-1) (by have := HXN.out; simp; omega)] at hown
        rw [bump_back] at hown
        have hBw : Below w.heap.size w wr := HX2B.out.2.trans (hex.below (by have := HG.out; have := HSZ.out; omega) HX2B.out.2.size)
        have gY : ∀ W, Below wr.heap.size wr W → Ew W ya yn yc r1.ents := fun W hW => by
          have h9 : Rw (fun x => x ≠ g) X2 36 5 ya yn yc (enR r1.ents) := HYR.out X2 HX2B.out.1
          exact Ew.below (Rw.mono (Rw.keep h9 hex.1.size (fun b hb hl => hex.2 b hl hb)) (fun _ _ _ => trivial)) hW
        have rx := (hex.2 xb (lt_of_some HL13.out.2) (by have := HXB.out; have := HG.out; have := HSZ.out; omega)).trans HL13.out.2
        have ry0 := HYB.out X2 HX2B.out.1
        have ry := (hex.2 yb (lt_of_some ry0) (by have := HXB.out; have := HG.out; have := HSZ.out; omega)).trans ry0
        have HS : Hid (∀ W, Below wr.heap.size wr W → ((W.cell? ⟨xb, 0, none⟩ = some (.string k1) ∧ W.cell? ⟨xb, 1, none⟩ = some (.int .i64 m1) ∧ W.cell? ⟨xb, 2, none⟩ = some (.slice xa i xc)) ∧ (W.cell? ⟨yb, 0, none⟩ = some (.string k1) ∧ W.cell? ⟨yb, 1, none⟩ = some (.int .i64 m1) ∧ W.cell? ⟨yb, 2, none⟩ = some (.slice ya yn yc))) ∧ Below w.heap.size w W) := fun W hW => by
          obtain ⟨g0, g1, g2, _⟩ := row3 ((hW.block xb (lt_of_some rx)).trans rx)
          obtain ⟨f0, f1, f2, _⟩ := row3 ((hW.block yb (lt_of_some ry)).trans ry)
          exact ⟨⟨⟨g0, g1, g2⟩, f0, f1, f2⟩, hBw.trans (hW.mono hBw.size)⟩
        have HTX : Hid (∀ W, Calls Tryd.prog 13 #[.agg #[.string k1, .int .i64 m1, .slice xa i xc]] W fun e w' => e = .returned (.agg #[.string k1, .int .i64 m1, .slice xa i xc]) ∧ Below W.heap.size W w') := fun W => theirs_any k1 m1 xa i xc
        have HSB : Hid (∀ W, Below wr.heap.size wr W → Calls Tryd.prog 12 #[.agg #[.string k1, .int .i64 m1, .slice xa i xc], .agg #[.string k1, .int .i64 m1, .slice ya yn yc]] W fun e w' => e = .returned (.bool true) ∧ Below W.heap.size W w') := fun W hW => by
          have h9 := same_au k1 m1 k1 m1 ((Ew.own hown).below hW) (gY W hW)
          rw [sameA_self] at h9
          exact h9
        clear hown hex gY rx ry0 ry hBw
        go_wp2
        clear x0 x1 x2
        refine wp_region_held_drew (S := fun W => (W.cell? ⟨xb, 0, none⟩ = some (.string k1) ∧ W.cell? ⟨xb, 1, none⟩ = some (.int .i64 m1) ∧ W.cell? ⟨xb, 2, none⟩ = some (.slice xa i xc)) ∧ (W.cell? ⟨yb, 0, none⟩ = some (.string k1) ∧ W.cell? ⟨yb, 1, none⟩ = some (.int .i64 m1) ∧ W.cell? ⟨yb, 2, none⟩ = some (.slice ya yn yc))) (by kernel_rfl) ((HS.out wr.drew (Below.refl _ wr).drew).1) (fun hHeld => ?_)
        have Hb_0 : Hid (Below wr.heap.size wr wr.drew) := (Below.refl _ wr).drew
        refine wpAnyH_take (i := 0) (v := ?vb_0) rfl (by kernel_rfl) (by kernel_rfl) (by kernel_rfl) (fun _ _ _ h => h) (Or.inl ⟨by first | kernel_rfl | rfl, ?yb_0⟩) hHeld ?rb_0
        case yb_0 => (intro W hSW; (try dsimp only at hSW); go_simp; (try with_reducible rfl))
        change wpAnyH _ _ _ _ _ _ _ (Act.put _ (some 96) _) _
        simp only [Act.put, List.setIfInBounds_toArray, List.set_cons_zero, List.set_cons_succ]
        refine wpAnyH_take (i := 1) (v := ?vb_1) rfl (by kernel_rfl) (by kernel_rfl) (by kernel_rfl) (fun _ _ _ h => h) (Or.inl ⟨by first | kernel_rfl | rfl, ?yb_1⟩) hHeld ?rb_1
        case yb_1 => (intro W hSW; (try dsimp only at hSW); go_simp; (try with_reducible rfl))
        change wpAnyH _ _ _ _ _ _ _ (Act.put _ (some 97) _) _
        simp only [Act.put, List.setIfInBounds_toArray, List.set_cons_zero, List.set_cons_succ]
        refine wpAnyH_take (i := 2) (v := ?vb_2) rfl (by kernel_rfl) (by kernel_rfl) (by kernel_rfl) (fun _ _ _ h => h) (Or.inl ⟨by first | kernel_rfl | rfl, ?yb_2⟩) hHeld ?rb_2
        case yb_2 => (intro W hSW; (try dsimp only at hSW); go_simp; (try with_reducible rfl))
        change wpAnyH _ _ _ _ _ _ _ (Act.put _ (some 98) _) _
        simp only [Act.put, List.setIfInBounds_toArray, List.set_cons_zero, List.set_cons_succ]
        refine wpAnyH_take (i := 4) (v := ?vb_4) rfl (by kernel_rfl) (by kernel_rfl) (by kernel_rfl) (fun _ _ _ h => h) (Or.inl ⟨by first | kernel_rfl | rfl, ?yb_4⟩) hHeld ?rb_4
        case yb_4 => (intro W hSW; (try dsimp only at hSW); go_simp; (try with_reducible rfl))
        change wpAnyH _ _ _ _ _ _ _ (Act.put _ (some 100) _) _
        simp only [Act.put, List.setIfInBounds_toArray, List.set_cons_zero, List.set_cons_succ]
        refine wpAnyH_ready (rs := [3]) (by kernel_rfl) (by simp) ?_
        refine AllReadyH.cons rfl (fun K hK => ?_) AllReadyH.nil
        go_simp
        refine (HTX.out wr.drew).mono ?_
        rintro e X3 ⟨rfl, hbX3⟩
        refine hK.out _ _ ((HS.out X3 (Hb_0.out.trans (hbX3.mono Hb_0.out.size))).1) (fun hHeld => ?_)
        clear hK K
        try simp only [Act.put, List.setIfInBounds_toArray, List.set_cons_zero, List.set_cons_succ]
        have HX3 : Hid (Below wr.heap.size wr X3) := (Hb_0.out.trans (hbX3.mono Hb_0.out.size))
        clear hbX3
        refine wpAnyH_ready (rs := [5]) (by kernel_rfl) (by simp) ?_
        refine AllReadyH.cons rfl (fun K hK => ?_) AllReadyH.nil
        go_simp
        refine (HSB.out X3 HX3.out).mono ?_
        rintro e X4 ⟨rfl, hbX4⟩
        refine hK.out _ _ ((HS.out X4 (HX3.out.trans (hbX4.mono HX3.out.size))).1) (fun hHeld => ?_)
        clear hK K
        try simp only [Act.put, List.setIfInBounds_toArray, List.set_cons_zero, List.set_cons_succ]
        have HX4 : Hid (Below wr.heap.size wr X4) := (HX3.out.trans (hbX4.mono HX3.out.size))
        clear hbX4
        refine wpAnyH_take (i := 6) (v := ?vb_6) rfl (by kernel_rfl) (by kernel_rfl) (by kernel_rfl) (fun _ _ _ h => h) (Or.inl ⟨by first | kernel_rfl | rfl, ?yb_6⟩) hHeld ?rb_6
        case yb_6 => (intro W hSW; (try dsimp only at hSW); go_simp; (try with_reducible rfl))
        change wpAnyH _ _ _ _ _ _ _ (Act.put _ (some 102) _) _
        simp only [Act.put, List.setIfInBounds_toArray, List.set_cons_zero, List.set_cons_succ]
        refine wpAnyH_take (i := 7) (v := ?vb_7) rfl (by kernel_rfl) (by kernel_rfl) (by kernel_rfl) (fun _ _ _ h => h) (Or.inl ⟨by first | kernel_rfl | rfl, ?yb_7⟩) hHeld ?rb_7
        case yb_7 => (intro W hSW; (try dsimp only at hSW); go_simp; (try with_reducible rfl))
        change wpAnyH _ _ _ _ _ _ _ (Act.put _ (some 103) _) _
        simp only [Act.put, List.setIfInBounds_toArray, List.set_cons_zero, List.set_cons_succ]
        refine wpAnyH_take (i := 8) (v := ?vb_8) rfl (by kernel_rfl) (by kernel_rfl) (by kernel_rfl) (fun _ _ _ h => h) (Or.inl ⟨by first | kernel_rfl | rfl, ?yb_8⟩) hHeld ?rb_8
        case yb_8 => (intro W hSW; (try dsimp only at hSW); go_simp; (try with_reducible rfl))
        change wpAnyH _ _ _ _ _ _ _ (Act.put _ (some 104) _) _
        simp only [Act.put, List.setIfInBounds_toArray, List.set_cons_zero, List.set_cons_succ]
        refine wpAnyH_take (i := 9) (v := ?vb_9) rfl (by kernel_rfl) (by kernel_rfl) (by kernel_rfl) (fun _ _ _ h => h) (Or.inl ⟨by first | kernel_rfl | rfl, ?yb_9⟩) hHeld ?rb_9
        case yb_9 => (intro W hSW; (try dsimp only at hSW); go_simp; (try with_reducible rfl))
        change wpAnyH _ _ _ _ _ _ _ (Act.put _ (some 105) _) _
        simp only [Act.put, List.setIfInBounds_toArray, List.set_cons_zero, List.set_cons_succ]
        refine wpAnyH_take (i := 10) (v := ?vb_10) rfl (by kernel_rfl) (by kernel_rfl) (by kernel_rfl) (fun _ _ _ h => h) (Or.inl ⟨by first | kernel_rfl | rfl, ?yb_10⟩) hHeld ?rb_10
        case yb_10 => (intro W hSW; (try dsimp only at hSW); go_simp; (try with_reducible rfl))
        change wpAnyH _ _ _ _ _ _ _ (Act.put _ (some 106) _) _
        simp only [Act.put, List.setIfInBounds_toArray, List.set_cons_zero, List.set_cons_succ]
        refine wpAnyH_take (i := 11) (v := ?vb_11) rfl (by kernel_rfl) (by kernel_rfl) (by kernel_rfl) (fun _ _ _ h => h) (Or.inl ⟨by first | kernel_rfl | rfl, ?yb_11⟩) hHeld ?rb_11
        case yb_11 => (intro W hSW; (try dsimp only at hSW); go_simp; (try with_reducible rfl))
        change wpAnyH _ _ _ _ _ _ _ (Act.put _ (some 107) _) _
        simp only [Act.put, List.setIfInBounds_toArray, List.set_cons_zero, List.set_cons_succ]
        refine wpAnyH_take (i := 12) (v := ?vb_12) rfl (by kernel_rfl) (by kernel_rfl) (by kernel_rfl) (fun _ _ _ h => h) (Or.inl ⟨by first | kernel_rfl | rfl, ?yb_12⟩) hHeld ?rb_12
        case yb_12 => (intro W hSW; (try dsimp only at hSW); go_simp; (try with_reducible rfl))
        change wpAnyH _ _ _ _ _ _ _ (Act.put _ (some 108) _) _
        simp only [Act.put, List.setIfInBounds_toArray, List.set_cons_zero, List.set_cons_succ]
        refine wpAnyH_ready (rs := [13]) (by kernel_rfl) (by simp) ?_
        refine AllReadyH.cons rfl (fun K hK => ?_) AllReadyH.nil
        go_simp
        refine (HLV.out X4 (HS.out X4 HX4.out).2).mono ?_
        rintro e X5 ⟨rfl, hbX5⟩
        refine hK.out _ _ ((HS.out X5 (HX4.out.trans (hbX5.mono HX4.out.size))).1) (fun hHeld => ?_)
        clear hK K
        try simp only [Act.put, List.setIfInBounds_toArray, List.set_cons_zero, List.set_cons_succ]
        have HX5 : Hid (Below wr.heap.size wr X5) := (HX4.out.trans (hbX5.mono HX4.out.size))
        clear hbX5
        refine wpAnyH_take (i := 14) (v := ?vb_14) rfl (by kernel_rfl) (by kernel_rfl) (by kernel_rfl) (fun _ _ _ h => h) (Or.inl ⟨by first | kernel_rfl | rfl, ?yb_14⟩) hHeld ?rb_14
        case yb_14 => (intro W hSW; (try dsimp only at hSW); go_simp; (try with_reducible rfl))
        change wpAnyH _ _ _ _ _ _ _ (Act.put _ (some 110) _) _
        simp only [Act.put, List.setIfInBounds_toArray, List.set_cons_zero, List.set_cons_succ]
        refine wpAnyH_take (i := 15) (v := ?vb_15) rfl (by kernel_rfl) (by kernel_rfl) (by kernel_rfl) (fun _ _ _ h => h) (Or.inl ⟨by first | kernel_rfl | rfl, ?yb_15⟩) hHeld ?rb_15
        case yb_15 => (intro W hSW; (try dsimp only at hSW); go_simp; (try with_reducible rfl))
        change wpAnyH _ _ _ _ _ _ _ (Act.put _ (some 4) _) _
        simp only [Act.put, List.setIfInBounds_toArray, List.set_cons_zero, List.set_cons_succ]
        refine wpAnyH_done (by kernel_rfl) ?_ _
        have HZ : Hid (Below w.heap.size w X5) := (HS.out X5 HX5.out).2
        go_wp2
        go_ret
        exact ⟨rfl, HZ.out⟩

set_option linter.unusedVariables false in
set_option maxRecDepth 100000 in
theorem lifted (os : Os) (started : os.Started) (H : Type) (enc : TypeId × Value → H) :
    ReturnsInHanded {} Tryd.checked os 4 .any (fun w args => (Rows.auditAddsSpec.pre enc Tryd.prog Tryd.f4 [] false w args ∧ laidMetH Tryd.prog laid2 w) ∧ sizedMet enc Tryd.prog Tryd.f4 (OpenSpec.ofChange Rows.auditAddsSpec) false w args) (Rows.auditAddsSpec.post enc Tryd.prog Tryd.f4 false true false false) := by
  refine returnsInHanded_of_change_and (C := Tryd.checked) (X := fun w _ => laidMetH Tryd.prog laid2 w) (fun _ _ _ hh h => h.of_heap hh) own started (by kernel_rfl) Tryd.func4
    (ChangeSpec.witness_shaped (enc := enc) (C := Tryd.checked) (os := os) (X := fun w _ => laidMetH Tryd.prog laid2 w) false (World.doorLaid Tryd.prog 19 os) #[.agg #[.string ByteArray.empty, .int .i64 0, .slice none 0 0], .agg #[.int .i64 0, .int .i64 0, .int .i64 0, .string ByteArray.empty, .int .i64 0]] 8 rfl (World.shaped_of_RefB (by kernel_rfl) (by kernel_rfl)) (by kernel_rfl) (by kernel_rfl) (by kernel_rfl) (door_met os _)) ?_
  intro W base args ds gs before hval0 hW _ hsz0 hL _
  have hval : ∀ (j : Nat) t v, Tryd.f4.params[j]? = some t → args[j]? = some v → Value.okWide Tryd.prog W .any base t v := hval0
  have hsz : (DataW.weightsEach Tryd.prog (Tryd.f4.params.toList ++ Rows.auditAddsSpec.plain.varTypes Tryd.prog) (ds ++ gs)).all (· ≤ reachBytes) = true := hsz0
  have hW' := hW
  obtain ⟨p, q, hA0, hV, rfl, hfz, hnd⟩ := hW
  have hA : DataW.TrodAll enc Tryd.prog W 0 (fun _ => true) true Tryd.f4.params.toList args.toList ds p := hA0
  rw [Tryd.params4] at hA hval hsz
  obtain ⟨v0, vs0, d0, ds0, p0, q0, hargs, rfl, rfl, h0, r0⟩ := trodAll_cons hA
  obtain ⟨v1, vs1, d1, ds1, p1, q1, rfl, rfl, rfl, h1, r1⟩ := trodAll_cons r0
  obtain ⟨rfl, rfl, rfl⟩ := trodAll_nil r1
  obtain rfl : args = #[v0, v1] := by cases args; simp_all
  obtain ⟨rfl, rfl⟩ := trodVars_none hV
  have k0 := h0
  have lt0 : ∀ x ∈ p0, x.block < W.heap.size := by obtain ⟨m, hm⟩ := k0; exact DataW.trod_lt m _ _ _ hm
  obtain ⟨s0, n0, a0, len0, cap0, l0, rfl, w0, c0, z0, x0⟩ := aud_arg (j := 0) (hval 0 24 v0 rfl rfl) h0 hsz rfl rfl
  have k1 := h1
  have lt1 : ∀ x ∈ p1, x.block < W.heap.size := by obtain ⟨m, hm⟩ := k1; exact DataW.trod_lt m _ _ _ hm
  obtain ⟨c1, rfl, z1⟩ := ent_arg (j := 1) (hval 1 36 v1 rfl rfl) h1 hsz rfl rfl
  clear hA0 hval0 hsz hsz0
  refine (walk s0 n0 a0 len0 cap0 l0 c0 z0 x0 c1 z1 W w0 (of_laid hL)).mono fun e W' ⟨he, bel⟩ => ?_
  subst he
  exact ⟨_, rfl, _, _, _, [], _, [], hW', trodAll_mk1 (shut_bool Tryd.underlying4 _), (trodAll_cons_mk (Below.trod laidOut (by kernel_rfl) (of_decide_eq_true (by kernel_rfl)) k0 bel lt0) (trodAll_cons_mk (Below.trod laidOut (by kernel_rfl) (of_decide_eq_true (by kernel_rfl)) k1 bel lt1) trodAll_mk0)), rfl, bel.frame _, fun h => by cases h⟩

theorem over : Rows.auditAddsRow.holds Tryd.pinned (OpenSpec.ofChange Rows.auditAddsSpec) :=
  OpenClaim.holds_of_wide 4 Tryd.f4 rfl rfl rfl rfl rfl rfl rfl ⟨rfl, rfl, rfl, rfl, rfl⟩ rfl rfl rfl rfl rfl (by kernel_rfl) Tryd.func4 (by kernel_rfl)
    (of_decide_eq_true (by kernel_rfl)) (by unfold Func.isWrapper; first | (rw [if_pos (by decide +kernel)]; kernel_rfl) | (rw [if_neg (by decide +kernel)]; exact ⟨rfl, rfl⟩))
    (fun os started H enc _ => lifted os started H enc)

end Go.Proofs.YtkhidkilkbmpoaaDoor.auditAdds
namespace Go.Proofs.YtkhidkilkbmpoaaDoor
/-- The given statement. -/
theorem auditAdds_holds : Rows.AuditAddsCardSaid :=
  Claim7.holds_tied_plain_at .later [] [.data, .data] true (true, "c0eea24fd7221e3afb955dddc54761337ed5996520cfcdb0e8757455c9d47393") false
    auditAdds.over (fun _ h => by cases h) (by kernel_rfl) (fun _ h => by cases h) auditAdds_row_tie rfl ⟨rfl, rfl⟩ (by kernel_rfl) rfl
    (fun f fn hf hfn => by
      obtain rfl : f = 4 := Option.some.inj ((show Tryd.prog.funcNamed "strongroom/strongroomlaw13.AuditAdds" = some 4 by kernel_rfl).symm.trans hf) |>.symm
      obtain rfl : fn = Tryd.f4 := (Option.some.inj (Tryd.func4.symm.trans hfn)).symm
      exact ⟨by kernel_rfl, fun j t ht => by
        rw [Tryd.params4] at ht
        rcases j with _ | _ | j
        · obtain rfl : t = 24 := by simpa using ht.symm
          exact (show Tryd.prog.wantsStandIn 24 = false by kernel_rfl)
        · obtain rfl : t = 36 := by simpa using ht.symm
          exact (show Tryd.prog.wantsStandIn 36 = false by kernel_rfl)
        · simp at ht
      ⟩)
    (by kernel_rfl)
#print axioms auditAdds_holds
end Go.Proofs.YtkhidkilkbmpoaaDoor
