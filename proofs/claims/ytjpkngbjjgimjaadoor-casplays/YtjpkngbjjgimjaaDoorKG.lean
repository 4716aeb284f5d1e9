/- Walks over named and look. -/
import Derived.Test.YtjpkngbjjgimjaaDoorKE
namespace Go.Proofs.YtjpkngbjjgimjaaDoor
open Go.RowKit
/-- The content with these bytes among those of its digest, or a new one. -/
def namedL (data : ByteArray) : List Cn → Cn → Cn
  | [], f => f
  | c :: l, f => if c.data = data then c else namedL data l (if c.n = f.n then { f with n := f.n + 1 } else f)
def namedF (W : Nat) (T : List Pr) (data : ByteArray) : Cn := namedL data (alikeL W T (digW W data)) ⟨digW W data, 0, 0, data⟩
theorem res_one {fn : Func} {p : Tmp} (h : fn.results = #[.cell p 78]) (tmps : Array Value) (w : World) (g : Nat) (cs : Array Value) (hp : tmps.getD p undef = .pointer (some ⟨g, 0, none⟩)) (hg : w.heap[g]? = some (.cells cs 78 (0, 0))) (hi : (Tryd.prog.info? 78).map (·.size) = some cs.size) :
    (results fn tmps).run Tryd.prog w = .ok (.agg cs) w := by
  have hp' : tmps[p]?.getD undef = .pointer (some ⟨g, 0, none⟩) := by simpa using hp
  have hl := run_loadVar_row (P := Tryd.prog) w g 78 78 cs (0, 0) _ hg Tryd.underlying78 rfl hi
  simp [results, h, hp', asAddr, hl]
def NmTo (w : World) (c : Cn) (e : Ending) (w' : World) : Prop := e = .returned (.agg c.cells) ∧ Below w.heap.size w w'
section
variable {h0 : Nat} {F : Nat → Prop} {w : World} {st tb W : Nat} {full : Int} {T : List Pr}
set_option maxRecDepth 100000 in
set_option maxHeartbeats 4000000 in
theorem named_any (h : Cs h0 F w st tb W full T) (hW : W ≤ 32) (hL : Laid w) (data : ByteArray) (hd : data.size ≤ 1000000) : Calls Tryd.prog 29 #[.pointer (some ⟨st, 0, none⟩), .string data] w fun e w' => NmTo w (namedF W T data) e w' := by
  obtain ⟨W1, hW1⟩ : ∃ W1, w.alloc (.cells #[.string ⟨#[]⟩, .int .i64 0, .int .u32 0, .string ⟨#[]⟩] 78) = W1 := ⟨_, rfl⟩
  obtain ⟨rb, hrb⟩ : ∃ rb, w.heap.size = rb := ⟨_, rfl⟩
  have r1 : W1.heap[rb]? = some (.cells #[.string ⟨#[]⟩, .int .i64 0, .int .u32 0, .string ⟨#[]⟩] 78 (0, 0)) := by rw [← hW1, ← hrb]; exact heap_alloc_new w _
  have hb1 : Below w.heap.size w W1 := by rw [← hW1]; exact (Below.refl _ w).alloc (Nat.le_refl _) _
  have h1 := h.below hb1
  have HDG := digest_any (w := W1) (st := st) (by rw [cell_of_row _ _ _ _ _ _ h1.stat]; rfl) hW (hL.below hb1) data hd
  obtain ⟨sm, hsm⟩ : ∃ sm, digW W data = sm := ⟨_, rfl⟩
  rw [hsm] at HDG
  have HN : Hid (namedF W T data = namedL data (alikeL W T sm) ⟨sm, 0, 0, data⟩) := by show _ = _; unfold namedF; rw [hsm]
  have HB1 : Hid (Below w.heap.size w W1 ∧ W1.heap[rb]? = some (.cells #[.string ⟨#[]⟩, .int .i64 0, .int .u32 0, .string ⟨#[]⟩] 78 (0, 0)) ∧ Cs h0 (mor F w W1) W1 st tb W full T) := ⟨hb1, r1, h1⟩
  clear r1 hb1 h1 h hL hsm
  go_enter Tryd.func29, Tryd.ntmps29
  go_wp2_with fail
  refine HDG.mono ?_
  rintro e V1 ⟨rfl, hb⟩
  obtain ⟨V2, hV2⟩ : ∃ V2, V1.alloc (.cells #[.string sm, .int .i64 0, .int .u32 0, .string data] 78) = V2 := ⟨_, rfl⟩
  obtain ⟨fb, hfb⟩ : ∃ fb, V1.heap.size = fb := ⟨_, rfl⟩
  have r2 : V2.heap[fb]? = some (.cells #[.string sm, .int .i64 0, .int .u32 0, .string data] 78 (0, 0)) := by rw [← hV2, ← hfb]; exact heap_alloc_new V1 _
  have hb2 : Below W1.heap.size W1 V2 := by rw [← hV2]; exact hb.alloc hb.size _
  have f0 : V2.cell? ⟨fb, 0, none⟩ = some (.string sm) := by rw [cell_of_row _ _ _ _ _ _ r2]; rfl
  have HAL := alike_any (HB1.out.2.2.below hb2) hW sm
  obtain ⟨AL, hAL⟩ : ∃ AL, alikeL W T sm = AL := ⟨_, rfl⟩
  rw [hAL] at HAL
  have hrf : rb < fb := by have := lt_of_some HB1.out.2.1; have := hb.size; omega
  have HN2 : Hid (namedF W T data = namedL data AL ⟨sm, 0, 0, data⟩) := by show _ = _; rw [HN.out, hAL]
  have HR2 : Hid (V2.heap[fb]? = some (.cells #[.string sm, .int .i64 0, .int .u32 0, .string data] 78 (0, 0)) ∧ V2.heap[rb]? = some (.cells #[.string ⟨#[]⟩, .int .i64 0, .int .u32 0, .string ⟨#[]⟩] 78 (0, 0)) ∧ Below w.heap.size w V2) := ⟨r2, (hb2.block rb (lt_of_some HB1.out.2.1)).trans HB1.out.2.1, HB1.out.1.trans (hb2.mono HB1.out.1.size)⟩
  clear HDG hb hb2 r2 hAL HN HB1 hW1
  go_wp2_with fail
  refine HAL.mono ?_
  rintro e V3 ⟨ra, rn, rc, rfl, ho, hb3⟩
  have HCW : Hid (Cw (fun _ => True) V3 ra rn rc AL) := Rw.own ho (fun _ _ => trivial)
  have hal := HCW.out.len
  have hrm : rn ≤ 9223372036854775807 := by have h5 := HCW.out.2.1; have h6 := HCW.out.2.2.1; unfold maxLen at h6; omega
  have HRO : Hid (V3.ownsRow V2.heap.size 78 4 (.slice ra rn rc) rn (cnR AL)) := ho
  have HR3 : Hid (V3.heap[fb]? = some (.cells #[.string sm, .int .i64 0, .int .u32 0, .string data] 78 (0, 0)) ∧ V3.heap[rb]? = some (.cells #[.string ⟨#[]⟩, .int .i64 0, .int .u32 0, .string ⟨#[]⟩] 78 (0, 0)) ∧ Below w.heap.size w V3) := ⟨(hb3.block fb (lt_of_some HR2.out.1)).trans HR2.out.1, (hb3.block rb (lt_of_some HR2.out.2.1)).trans HR2.out.2.1, HR2.out.2.2.trans (hb3.mono HR2.out.2.2.size)⟩
  have hfv2 : fb < V2.heap.size := lt_of_some HR2.out.1
  clear HAL ho hb3 HR2 f0 hV2
  go_wp2
  go_loopw [20] (fun vi wr => ∃ (i fn : Nat), i ≤ rn ∧ fn ≤ i ∧ vi = .int .i64 i ∧ Cw (fun _ => True) wr ra rn rc AL ∧ wr.ownsRow V2.heap.size 78 4 (.slice ra rn rc) rn (cnR AL) ∧ wr.heap[fb]? = some (.cells #[.string sm, .int .i64 (fn : Int), .int .u32 0, .string data] 78 (0, 0)) ∧ wr.heap[rb]? = some (.cells #[.string ⟨#[]⟩, .int .i64 0, .int .u32 0, .string ⟨#[]⟩] 78 (0, 0)) ∧ Below w.heap.size w wr ∧ namedF W T data = namedL data (AL.drop i) ⟨sm, fn, 0, data⟩) (fun vi _ => rn - (intOf vi).toNat)
  case atStart => exact ⟨0, 0, by omega, by omega, rfl, HCW.out, HRO.out, HR3.out.1, HR3.out.2.1, HR3.out.2.2, by rw [List.drop_zero]; exact HN2.out⟩
  case round =>
    clear HCW HRO HR3 HN2
    obtain ⟨i, fn, hi, hfi, rfl, hcw, hro, hf, hr, hbw, hnm⟩ := hrel
    by_cases hlt : i < rn
    · have kk : (i : Int) < (rn : Int) := by omega
      obtain ⟨lb, lo, rfl, hlb, hc⟩ := hcw.at (by omega)
      obtain ⟨⟨c1, c2, c3, c4⟩, hci⟩ : ∃ c, AL[i]? = some c := ⟨_, List.getElem?_eq_getElem (by omega)⟩
      obtain ⟨g0, g1, g2, g3⟩ := hc i _ hci
      simp only at g0 g1 g2 g3
      have hdr : AL.drop i = ⟨c1, c2, c3, c4⟩ :: AL.drop (i + 1) := by
        obtain ⟨h5, h6⟩ := List.getElem?_eq_some_iff.1 hci
        rw [List.drop_eq_getElem_cons h5, h6]
      rw [hdr] at hnm
      obtain ⟨V4, hV4⟩ : ∃ V4, wr.alloc (.cells #[.string c1, .int .i64 (c2 : Int), .int .u32 (c3 : Int), .string c4] 78) = V4 := ⟨_, rfl⟩
      obtain ⟨xb, hxb⟩ : ∃ xb, wr.heap.size = xb := ⟨_, rfl⟩
      have r4 : V4.heap[xb]? = some (.cells #[.string c1, .int .i64 (c2 : Int), .int .u32 (c3 : Int), .string c4] 78 (0, 0)) := by rw [← hV4, ← hxb]; exact heap_alloc_new wr _
      have hB4 : Below wr.heap.size wr V4 := by rw [← hV4]; exact (Below.refl _ wr).alloc (Nat.le_refl _) _
      have x0 : V4.cell? ⟨xb, 0, none⟩ = some (.string c1) := by rw [cell_of_row _ _ _ _ _ _ r4]; rfl
      have x1 : V4.cell? ⟨xb, 1, none⟩ = some (.int .i64 (c2 : Int)) := by rw [cell_of_row _ _ _ _ _ _ r4]; rfl
      have x2 : V4.cell? ⟨xb, 2, none⟩ = some (.int .u32 (c3 : Int)) := by rw [cell_of_row _ _ _ _ _ _ r4]; rfl
      have x3 : V4.cell? ⟨xb, 3, none⟩ = some (.string c4) := by rw [cell_of_row _ _ _ _ _ _ r4]; rfl
      have hf4 := (hB4.block fb (lt_of_some hf)).trans hf
      have hr4 := (hB4.block rb (lt_of_some hr)).trans hr
      have y1 : V4.cell? ⟨fb, 1, none⟩ = some (.int .i64 (fn : Int)) := by rw [cell_of_row _ _ _ _ _ _ hf4]; rfl
      have yf := frozen_of_row V4 fb 1 _ _ hf4
      have z0 : V4.cell? ⟨rb, 0, none⟩ = some (.string ⟨#[]⟩) := by rw [cell_of_row _ _ _ _ _ _ hr4]; rfl
      have z1 : V4.cell? ⟨rb, 1, none⟩ = some (.int .i64 0) := by rw [cell_of_row _ _ _ _ _ _ hr4]; rfl
      have z2 : V4.cell? ⟨rb, 2, none⟩ = some (.int .u32 0) := by rw [cell_of_row _ _ _ _ _ _ hr4]; rfl
      have z3 : V4.cell? ⟨rb, 3, none⟩ = some (.string ⟨#[]⟩) := by rw [cell_of_row _ _ _ _ _ _ hr4]; rfl
      have e0 := frozen_of_row V4 rb 0 _ _ hr4
      have e1 := frozen_of_row V4 rb 1 _ _ hr4
      have e2 := frozen_of_row V4 rb 2 _ _ hr4
      have e3 := frozen_of_row V4 rb 3 _ _ hr4
      have HX : Hid (Cw (fun _ => True) V4 (some ⟨lb, lo, none⟩) rn rc AL ∧ V4.ownsRow V2.heap.size 78 4 (.slice (some ⟨lb, lo, none⟩) rn rc) rn (cnR AL) ∧ V4.heap[fb]? = some (.cells #[.string sm, .int .i64 (fn : Int), .int .u32 0, .string data] 78 (0, 0)) ∧ V4.heap[rb]? = some (.cells #[.string ⟨#[]⟩, .int .i64 0, .int .u32 0, .string ⟨#[]⟩] 78 (0, 0)) ∧ Below w.heap.size w V4) := ⟨hcw.below hB4, own_keep hro (fun z hz => hB4.block z (hro.lt z hz).2), hf4, hr4, hbw.trans (hB4.mono hbw.size)⟩
      have HNM : Hid (namedF W T data = if c4 = data then ⟨c1, c2, c3, c4⟩ else namedL data (AL.drop (i + 1)) (if c2 = fn then ⟨sm, fn + 1, 0, data⟩ else ⟨sm, fn, 0, data⟩)) := by show _ = _; rw [hnm]; rfl
      clear hcw hro hf hr hbw hnm hc hci hdr r4 hB4 hf4 hr4
      by_cases hdd : c4 = data
      · have hbe : (c4.toList == data.toList) = true := by rw [hdd]; simp
        have HE : Hid (namedF W T data = ⟨c1, c2, c3, c4⟩) := by show _ = _; rw [HNM.out, if_pos hdd]
        clear hdd HNM
        go_wp2
        refine bodyPost_ret (v := .agg #[.string c1, .int .i64 (c2 : Int), .int .u32 (c3 : Int), .string c4]) ?_ rfl ⟨by rw [HE.out]; rfl, below4 HX.out.2.2.2.2 (by omega) _ _ _ _⟩
        exact res_one (fn := Tryd.f29) (p := 4) (by rfl) _ _ rb _ (by rfl) (set4 HX.out.2.2.2.1 _ _ _ _) infoC
      · have hbe : (c4.toList == data.toList) = false := str_nb hdd
        by_cases hcn : c2 = fn
        · have kb : ((c2 : Int) == (fn : Int)) = true := by rw [beq_iff_eq]; omega
          have HE : Hid (namedF W T data = namedL data (AL.drop (i + 1)) ⟨sm, fn + 1, 0, data⟩) := by show _ = _; rw [HNM.out, if_neg hdd, if_pos hcn]
          obtain ⟨f2, hf2⟩ : ∃ f2, fn + 1 = f2 := ⟨_, rfl⟩
          have kf : (fn : Int) + 1 = (f2 : Int) := by omega
          have HF2 : Hid (fn + 1 = f2) := hf2
          clear hdd HNM hcn hf2
          go_wp2
          have hne : rb ≠ fb := by omega
          have hof : ∀ k, k ≠ fb → (V4.setCell ⟨fb, 1, none⟩ (.int .i64 (f2 : Int))).heap[k]? = V4.heap[k]? := fun k hk => Below.heap_setCell _ _ _ _ hk
          refine ⟨⟨i + 1, f2, by omega, by have := HF2.out; omega, by go_num, ?_, ?_, ?_, ?_, ?_, ?_⟩, by simp [intOf]; omega⟩
          · refine Rw.own (own_keep HX.out.2.1 (fun z hz => hof z ?_)) (fun _ _ => trivial)
            have := (HX.out.2.1.lt z hz).1
            omega
          · refine own_keep HX.out.2.1 (fun z hz => hof z ?_)
            have := (HX.out.2.1.lt z hz).1
            omega
          · rw [heap_setCell_same _ _ _ _ _ _ HX.out.2.2.1]
            rfl
          · rw [hof rb hne]
            exact HX.out.2.2.2.1
          · exact HX.out.2.2.2.2.setCell (by show _ ≤ fb; omega) _
          · rw [HE.out, HF2.out]
        · have kb : ((c2 : Int) == (fn : Int)) = false := by rw [beq_eq_false_iff_ne]; omega
          have HE : Hid (namedF W T data = namedL data (AL.drop (i + 1)) ⟨sm, fn, 0, data⟩) := by show _ = _; rw [HNM.out, if_neg hdd, if_neg hcn]
          clear hdd HNM hcn
          go_wp2
          exact ⟨⟨i + 1, fn, by omega, by omega, by go_num, HX.out.1, HX.out.2.1, HX.out.2.2.1, HX.out.2.2.2.1, HX.out.2.2.2.2, HE.out⟩, by simp [intOf]; omega⟩
    · have kk : ¬ (i : Int) < (rn : Int) := by omega
      have hnil : AL.drop i = [] := List.drop_eq_nil_of_le (by omega)
      rw [hnil] at hnm
      have y0 : wr.cell? ⟨fb, 0, none⟩ = some (.string sm) := by rw [cell_of_row _ _ _ _ _ _ hf]; rfl
      have y1 : wr.cell? ⟨fb, 1, none⟩ = some (.int .i64 (fn : Int)) := by rw [cell_of_row _ _ _ _ _ _ hf]; rfl
      have y2 : wr.cell? ⟨fb, 2, none⟩ = some (.int .u32 0) := by rw [cell_of_row _ _ _ _ _ _ hf]; rfl
      have y3 : wr.cell? ⟨fb, 3, none⟩ = some (.string data) := by rw [cell_of_row _ _ _ _ _ _ hf]; rfl
      have z0 : wr.cell? ⟨rb, 0, none⟩ = some (.string ⟨#[]⟩) := by rw [cell_of_row _ _ _ _ _ _ hr]; rfl
      have z1 : wr.cell? ⟨rb, 1, none⟩ = some (.int .i64 0) := by rw [cell_of_row _ _ _ _ _ _ hr]; rfl
      have z2 : wr.cell? ⟨rb, 2, none⟩ = some (.int .u32 0) := by rw [cell_of_row _ _ _ _ _ _ hr]; rfl
      have z3 : wr.cell? ⟨rb, 3, none⟩ = some (.string ⟨#[]⟩) := by rw [cell_of_row _ _ _ _ _ _ hr]; rfl
      have e0 := frozen_of_row wr rb 0 _ _ hr
      have e1 := frozen_of_row wr rb 1 _ _ hr
      have e2 := frozen_of_row wr rb 2 _ _ hr
      have e3 := frozen_of_row wr rb 3 _ _ hr
      have HX : Hid (wr.heap[rb]? = some (.cells #[.string ⟨#[]⟩, .int .i64 0, .int .u32 0, .string ⟨#[]⟩] 78 (0, 0)) ∧ Below w.heap.size w wr ∧ namedF W T data = ⟨sm, fn, 0, data⟩) := ⟨hr, hbw, hnm⟩
      clear hcw hro hf hr hbw hnm hnil
      go_wp2
      refine bodyPost_ret (v := .agg #[.string sm, .int .i64 (fn : Int), .int .u32 0, .string data]) ?_ rfl ⟨by rw [HX.out.2.2]; rfl, below4 HX.out.2.1 (by omega) _ _ _ _⟩
      exact res_one (fn := Tryd.f29) (p := 4) (by rfl) _ _ rb _ (by rfl) (set4 HX.out.1 _ _ _ _) infoC
end
end Go.Proofs.YtjpkngbjjgimjaaDoor
