/- Pieces that are read: mathematics; a walk over piece. -/
import Derived.Test.YtbhnmjjfammlkaaDoorHR
import Derived.Test.YtbhnmjjfammlkaaDoorHF
namespace Go.Proofs.YtbhnmjjfammlkaaDoor
open Go.RowKit
theorem size5 (w : World) : (Go.sizeOf 5).run Tryd.prog w = .ok 1 w := by kernel_rfl
theorem mid_bytes (a : Option Addr) (len cap i j : Nat) (hi : i ≤ j) (hj : j ≤ cap) (W : World) : (Instr.sliceAt 50 (.slice a len cap) (some (.int .i64 (i : Int))) (some (.int .i64 (j : Int))) none).run Tryd.prog W = .ok (.slice (cutA a cap i 1) (j - i) (cap - i)) W := by
  have h1 := size5 W
  simp [Instr.sliceAt, Instr.slice, run_underlying Tryd.underlying50, Instr.sliceBounds, Instr.sliceBound, asIntOf, h1, hi, hj, cutA]
theorem Bs.cut {w : World} {a : Option Addr} {len cap : Nat} {bs : List UInt8} (h : Bs w a len cap bs) (l r : Nat) (h1 : l ≤ r) (h2 : r ≤ len) : Bs w (cutA a cap l 1) (r - l) (cap - l) ((bs.drop l).take (r - l)) := by
  obtain ⟨e1, e2, e3, e4, e5⟩ := h
  refine ⟨by simp; omega, by omega, by omega, ?_, ?_⟩
  · intro e
    unfold cutA at e
    split at e
    · omega
    · have : a = none := by cases a with | none => rfl | some x => cases e
      have := e4 this
      omega
  · intro ad had i hi
    simp only [List.length_take, List.length_drop] at hi
    unfold cutA at had
    rw [if_neg (by omega)] at had
    cases a with
    | none => cases had
    | some a0 =>
      cases had
      have := e5 a0 rfl (l + i) (by omega)
      have hadd : (a0.add (l * 1)).add i = a0.add (l + i) := by
        obtain ⟨b, off, spot⟩ := a0
        have hc0 := e5 _ rfl 0 (by omega)
        have hspot : spot = none := by simpa [Addr.add] using World.cell?_spot hc0
        subst hspot
        rw [Addr.add_lit, Addr.add_lit, Addr.add_lit]
        congr 1
        omega
      rw [hadd, this]
      simp
/-- A piece that is read at a place, and the place behind it. -/
def pieceF (bs : List UInt8) (p : Nat) : Option (Pc × Nat) :=
  if (getL (bs.drop p) 0 0).2.2 ≠ 0 then none
  else if (getL (bs.drop p) 0 0).1 % 2 = 1 then some (Pc.blk ((getL (bs.drop p) 0 0).1 / 2), p + (getL (bs.drop p) 0 0).2.1)
  else if (bs.drop (p + (getL (bs.drop p) 0 0).2.1)).length < (getL (bs.drop p) 0 0).1 / 2 then none
  else some (Pc.byt ((bs.drop (p + (getL (bs.drop p) 0 0).2.1)).take ((getL (bs.drop p) 0 0).1 / 2)), p + (getL (bs.drop p) 0 0).2.1 + (getL (bs.drop p) 0 0).1 / 2)
theorem decR_none {bs : List UInt8} {p k : Nat} (h : pieceF bs p = none) : decR (k + 1) (bs.drop p) = none := by
  unfold pieceF at h
  unfold decR
  rw [List.drop_drop]
  split at h
  · next h1 => rw [if_pos h1]
  · next h1 =>
    rw [if_neg h1]
    split at h
    · cases h
    · next h2 =>
      rw [if_neg h2]
      split at h
      · next h3 => rw [if_pos h3]
      · cases h
theorem decR_some {bs : List UInt8} {p k q : Nat} {c : Pc} (h : pieceF bs p = some (c, q)) : decR (k + 1) (bs.drop p) = (decR k (bs.drop q)).map fun x => (c :: x.1, x.2) := by
  unfold pieceF at h
  conv => lhs; unfold decR
  rw [List.drop_drop]
  split at h
  · cases h
  · next h1 =>
    rw [if_neg h1]
    split at h
    · next h2 =>
      cases h
      rw [if_pos h2]
    · next h2 =>
      rw [if_neg h2]
      split at h
      · cases h
      · next h3 =>
        cases h
        rw [if_neg h3, List.drop_drop]
theorem getL_read {bs : List UInt8} {p : Nat} (h : (getL (bs.drop p) 0 0).2.2 = 0) : 1 ≤ (getL (bs.drop p) 0 0).2.1 ∧ p + (getL (bs.drop p) 0 0).2.1 ≤ bs.length ∧ (getL (bs.drop p) 0 0).1 < 18446744073709551616 := by
  obtain ⟨m, e1, e2, e3, e4, _, e6⟩ := getL_least (bs.drop p) 0 0 (getL (bs.drop p) 0 0).1 (getL (bs.drop p) 0 0).2.1 (Prod.ext rfl (Prod.ext rfl h)) (by omega)
  simp only [Nat.pow_zero, Nat.mul_one, Nat.zero_add, Nat.sub_zero] at e1 e2 e3 e4 e6
  have hp := putN_pos m
  have hl := List.length_drop (i := p) (l := bs)
  refine ⟨by omega, by omega, by omega⟩
theorem piece_le {bs : List UInt8} {p q : Nat} {c : Pc} (h : pieceF bs p = some (c, q)) : q ≤ bs.length ∧ p < q := by
  unfold pieceF at h
  split at h
  · cases h
  · next h1 =>
    have := getL_read (bs := bs) (p := p) (by omega)
    split at h
    · cases h; omega
    · split at h
      · cases h
      · next h3 =>
        cases h
        rw [List.length_drop] at h3
        omega
/-- What piece tells. -/
def pieV : Option (Pc × Nat) → Value
  | none => .tuple #[.agg #[.bool false, .int .i64 0, .string ⟨#[]⟩], .int .i64 0, .bool false]
  | some (c, q) => .tuple #[.agg #[.bool c.copy, .int .i64 c.n, .string c.data], .int .i64 (q : Int), .bool true]
theorem res_pc3 {fn : Func} {p s t : Tmp} (h : fn.results = #[.cell p 48, .tmp s, .tmp t]) (tmps : Array Value) (w : World) (g : Nat) (cs : Array Value) (hp : tmps.getD p undef = .pointer (some ⟨g, 0, none⟩)) (hg : w.heap[g]? = some (.cells cs 48 (0, 0))) (hi : (Tryd.prog.info? 48).map (·.size) = some cs.size) :
    (results fn tmps).run Tryd.prog w = .ok (.tuple #[.agg cs, tmps.getD s undef, tmps.getD t undef]) w := by
  have hp' : tmps[p]?.getD undef = .pointer (some ⟨g, 0, none⟩) := by simpa using hp
  have hl := run_loadVar_row (P := Tryd.prog) w g 48 48 cs (0, 0) _ hg Tryd.underlying48 rfl hi
  simp [results, h, hp', asAddr, hl]
set_option maxRecDepth 100000 in
set_option maxHeartbeats 2000000 in
theorem piece_any {w : World} {a : Option Addr} {len cap : Nat} {bs : List UInt8} (h : Bs w a len cap bs) (p : Nat) (hp : p ≤ len) (hlen : len ≤ 1000000) : Calls Tryd.prog 43 #[.slice a len cap, .int .i64 (p : Int)] w fun e w' => e = .returned (pieV (pieceF bs p)) ∧ Below w.heap.size w w' := by
  have hbl := h.1
  have hcap := h.2.1
  obtain ⟨V0, hV0, r0, hb0⟩ := box_pc (w := w) false 0 ⟨#[]⟩
  obtain ⟨rb, hrb⟩ : ∃ rb, w.heap.size = rb := ⟨_, rfl⟩
  rw [hrb] at r0
  have x0 : V0.cell? ⟨rb, 0, none⟩ = some (.bool false) := by rw [cell_of_row _ _ _ _ _ _ r0]; rfl
  have x1 : V0.cell? ⟨rb, 1, none⟩ = some (.int .i64 0) := by rw [cell_of_row _ _ _ _ _ _ r0]; rfl
  have x2 : V0.cell? ⟨rb, 2, none⟩ = some (.string ⟨#[]⟩) := by rw [cell_of_row _ _ _ _ _ _ r0]; rfl
  have f0 := frozen_of_row V0 rb 0 _ _ r0
  have f1 := frozen_of_row V0 rb 1 _ _ r0
  have f2 := frozen_of_row V0 rb 2 _ _ r0
  have HG := get_any a len cap bs (p : Int) V0 (h.below hb0) (by omega) (by omega)
  rw [getAt_in (by omega)] at HG
  have hrd := getL_read (bs := bs) (p := p)
  have hun : pieceF bs p = pieceF bs p := rfl
  conv at hun => rhs; unfold pieceF
  rw [hun]
  obtain ⟨n, hn⟩ : ∃ n, (getL (bs.drop p) 0 0).1 = n := ⟨_, rfl⟩
  obtain ⟨q, hq⟩ : ∃ q, (getL (bs.drop p) 0 0).2.1 = q := ⟨_, rfl⟩
  obtain ⟨er, her⟩ : ∃ er, (getL (bs.drop p) 0 0).2.2 = er := ⟨_, rfl⟩
  rw [hn, hq, her] at HG hrd ⊢
  have HW : Hid (Below w.heap.size w V0 ∧ V0.heap[rb]? = some (.cells #[.bool false, .int .i64 0, .string ⟨#[]⟩] 48 (0, 0)) ∧ w.heap.size = rb ∧ Bs V0 a len cap bs) := ⟨hb0, r0, hrb, h.below hb0⟩
  clear hun hn hq her r0 hb0 h
  by_cases he : er = 0
  · subst he
    obtain ⟨hq1, hq2, hn2⟩ := hrd rfl
    rw [if_neg (by omega)]
    simp only [if_true] at HG
    obtain ⟨fr, hfr⟩ : ∃ fr, p + q = fr := ⟨_, rfl⟩
    have kfr : (p : Int) + (q : Int) = (fr : Int) := by omega
    rw [kfr] at HG
    rw [hfr]
    have HG : Calls Tryd.prog 42 #[.slice a len cap, .int .i64 (p : Int)] V0 fun e w' => e = .returned (.tuple #[.int .u64 (n : Int), .int .i64 (fr : Int), .int .i64 0]) ∧ w' = V0 := HG
    obtain ⟨m, hm⟩ : ∃ m, n / 2 = m := ⟨_, rfl⟩
    rw [hm]
    have km : (n : Int) / 2 = (m : Int) := by omega
    have kmt : Int.tdiv (n : Int) 2 = (m : Int) := by rw [← hm]; exact Int.ofNat_tdiv n 2
    have wm : IntKind.i64.wrap (m : Int) = (m : Int) := by rw [IntKind.wrap_i64]; omega
    by_cases ho : n % 2 = 1
    · rw [if_pos ho]
      have ko : (n : Int) % 2 = 1 := by omega
      have kot : Int.tmod (n : Int) 2 = 1 := by rw [show (1 : Int) = ((n % 2 : Nat) : Int) by omega]; exact Int.ofNat_tmod n 2
      have HBK := block_any m V0
      clear hrd ho hm hfr kfr hq1 hq2
      go_enter Tryd.func43, Tryd.ntmps43
      go_wp2_with fail
      refine HG.mono ?_
      rintro e V ⟨rfl, hV⟩
      subst V
      clear HG
      go_wp2_with fail
      refine HBK.mono ?_
      rintro e V2 ⟨rfl, hb2⟩
      have r2 := (hb2.block rb (lt_of_some HW.out.2.1)).trans HW.out.2.1
      have y0 : V2.cell? ⟨rb, 0, none⟩ = some (.bool false) := by rw [cell_of_row _ _ _ _ _ _ r2]; rfl
      have y1 : V2.cell? ⟨rb, 1, none⟩ = some (.int .i64 0) := by rw [cell_of_row _ _ _ _ _ _ r2]; rfl
      have y2 : V2.cell? ⟨rb, 2, none⟩ = some (.string ⟨#[]⟩) := by rw [cell_of_row _ _ _ _ _ _ r2]; rfl
      have g0 := frozen_of_row V2 rb 0 _ _ r2
      have g1 := frozen_of_row V2 rb 1 _ _ r2
      have g2 := frozen_of_row V2 rb 2 _ _ r2
      have H2 : Hid (Below w.heap.size w V2 ∧ V2.heap[rb]? = some (.cells #[.bool false, .int .i64 0, .string ⟨#[]⟩] 48 (0, 0))) := ⟨HW.out.1.trans (hb2.mono HW.out.1.size), r2⟩
      clear HBK hb2 r2 x0 x1 x2 f0 f1 f2
      go_wp2
      refine bodyPost_ret (v := pieV (some (Pc.blk m, fr))) ?_ rfl ⟨rfl, ?_⟩
      · exact res_pc3 (fn := Tryd.f43) (p := 4) (s := 5) (t := 6) (by rfl) _ _ rb _ (by rfl) (set3 H2.out.2 _ _ _) infoP3
      · have hrb2 := HW.out.2.2.1
        exact ((H2.out.1.setCell (by show _ ≤ rb; omega) _).setCell (by show _ ≤ rb; omega) _).setCell (by show _ ≤ rb; omega) _
    · rw [if_neg ho]
      have ko : (n : Int) % 2 = 0 := by omega
      have kot : Int.tmod (n : Int) 2 = 0 := by rw [show (0 : Int) = ((n % 2 : Nat) : Int) by omega]; exact Int.ofNat_tmod n 2
      obtain ⟨rs, hrs⟩ : ∃ rs, len - fr = rs := ⟨_, rfl⟩
      have krs : (len : Int) - (fr : Int) = (rs : Int) := by omega
      have wrs : IntKind.u64.wrap (rs : Int) = (rs : Int) := by rw [IntKind.wrap_u64]; omega
      rw [List.length_drop, hbl, hrs]
      by_cases hlt : rs < m
      · rw [if_pos hlt]
        have klt : (rs : Int) < (m : Int) := by omega
        clear hrd ho hm hfr kfr hq1 hq2 hrs
        go_enter Tryd.func43, Tryd.ntmps43
        go_wp2_with fail
        refine HG.mono ?_
        rintro e V ⟨rfl, hV⟩
        subst V
        clear HG
        go_wp2
        refine bodyPost_ret (v := pieV none) ?_ rfl ⟨rfl, ?_⟩
        · exact res_pc3 (fn := Tryd.f43) (p := 4) (s := 5) (t := 6) (by rfl) _ _ rb _ (by rfl) (set3 HW.out.2.1 _ _ _) infoP3
        · have hrb2 := HW.out.2.2.1
          exact ((HW.out.1.setCell (by show _ ≤ rb; omega) _).setCell (by show _ ≤ rb; omega) _).setCell (by show _ ≤ rb; omega) _
      · rw [if_neg hlt]
        have klt : ¬ (rs : Int) < (m : Int) := by omega
        obtain ⟨bh, hbh⟩ : ∃ bh, fr + m = bh := ⟨_, rfl⟩
        have kbh : (fr : Int) + (m : Int) = (bh : Int) := by omega
        have hsl := fun W => mid_bytes a len cap fr bh (by omega) (by omega) W
        have hcv := (HW.out.2.2.2.cut fr bh (by omega) (by omega)).conv
        rw [show bh - fr = m by omega] at hcv hsl
        obtain ⟨S, hS⟩ : ∃ S : ByteArray, (⟨((bs.drop fr).take m).toArray⟩ : ByteArray) = S := ⟨_, rfl⟩
        have eb : Pc.byt ((bs.drop fr).take m) = ⟨false, 0, S⟩ := by rw [← hS]; rfl
        rw [eb, hbh]
        rw [hS] at hcv
        obtain ⟨ca, hca⟩ : ∃ ca, cutA a cap fr 1 = ca := ⟨_, rfl⟩
        obtain ⟨cc, hcc⟩ : ∃ cc, cap - fr = cc := ⟨_, rfl⟩
        rw [hca, hcc] at hcv hsl
        clear hrd ho hm hfr kfr hq1 hq2 hrs hS eb hca hcc hbh
        go_enter Tryd.func43, Tryd.ntmps43
        go_wp2_with fail
        refine HG.mono ?_
        rintro e V ⟨rfl, hV⟩
        subst V
        clear HG
        go_wp2
        refine bodyPost_ret (v := pieV (some (⟨false, 0, S⟩, bh))) ?_ rfl ⟨rfl, ?_⟩
        · exact res_pc3 (fn := Tryd.f43) (p := 4) (s := 5) (t := 6) (by rfl) _ _ rb _ (by rfl) (set3 HW.out.2.1 _ _ _) infoP3
        · have hrb2 := HW.out.2.2.1
          exact ((HW.out.1.setCell (by show _ ≤ rb; omega) _).setCell (by show _ ≤ rb; omega) _).setCell (by show _ ≤ rb; omega) _
  · rw [if_pos he]
    have ke : ((er : Int) == 0) = false := by simpa using (show ¬ (er : Int) = 0 by omega)
    have HG : Calls Tryd.prog 42 #[.slice a len cap, .int .i64 (p : Int)] V0 fun e w' => e = .returned (.tuple #[.int .u64 (n : Int), .int .i64 0, .int .i64 (er : Int)]) ∧ w' = V0 := by
      rw [if_neg he] at HG
      exact HG
    clear hrd
    go_enter Tryd.func43, Tryd.ntmps43
    go_wp2_with fail
    refine HG.mono ?_
    rintro e V ⟨rfl, hV⟩
    subst V
    clear HG
    go_wp2
    refine bodyPost_ret (v := pieV none) ?_ rfl ⟨rfl, ?_⟩
    · exact res_pc3 (fn := Tryd.f43) (p := 4) (s := 5) (t := 6) (by rfl) _ _ rb _ (by rfl) (set3 HW.out.2.1 _ _ _) infoP3
    · have hrb2 := HW.out.2.2.1
      exact ((HW.out.1.setCell (by show _ ≤ rb; omega) _).setCell (by show _ ≤ rb; omega) _).setCell (by show _ ≤ rb; omega) _
end Go.Proofs.YtbhnmjjfammlkaaDoor
