/- What an entry of a table tells. -/
import Derived.Test.YtjpkngbjjgimjaaDoorKB
namespace Go.Proofs.YtjpkngbjjgimjaaDoor
open Go.RowKit
/-- A content. -/
structure Cn where
  sum : ByteArray
  n : Nat
  refs : Nat
  data : ByteArray
def Cn.cells (c : Cn) : Array Value := #[.string c.sum, .int .i64 (c.n : Int), .int .u32 (c.refs : Int), .string c.data]
def beU (v : ByteArray) : Nat → Nat
  | 0 => 0
  | k + 1 => beU v k * 256 + (v.data.toList.getD k 0).toNat
theorem beU_lt (v : ByteArray) : ∀ k, beU v k < 256 ^ k
  | 0 => by simp [beU]
  | k + 1 => by
    have h1 := beU_lt v k
    have h2 := (v.data.toList.getD k 0).toNat_lt
    unfold beU
    rw [Nat.pow_succ]
    omega
def parseF (W : Nat) (p : Pr) : Option Cn := if p.1.size = W + 2 ∧ 4 ≤ p.2.size ∧ p.2.size ≤ 132 ∧ beU p.2 4 ≠ 0 then some ⟨p.1.extract 1 (W + 1), (p.1.data.toList.getD (W + 1) 0).toNat, beU p.2 4, p.2.extract 4 p.2.size⟩ else none
def cnV : Option Cn → Value
  | none => .agg #[.string ⟨#[]⟩, .int .i64 0, .int .u32 0, .string ⟨#[]⟩]
  | some c => .agg c.cells
def ParTo (w : World) (r : Option Cn) (e : Ending) (w' : World) : Prop := e = .returned (.tuple #[cnV r, .bool r.isSome]) ∧ Below w.heap.size w w'
theorem str_byte (s : ByteArray) (k x : Nat) (hk : k < s.size) (hx : (s.data.toList.getD k 0).toNat = x) (W : World) : (Instr.index 9 (.string s) (.int .i64 (k : Int))).run Tryd.prog W = .ok (.int .u8 (x : Int)) W := by
  have hk' : k < s.data.size := hk
  rw [run_index_string W 9 s .i64 (k : Int) Tryd.underlying9, dif_pos ⟨by omega, by omega⟩]
  congr 2
  rw [← hx, List.getD_eq_getElem?_getD, Array.getElem?_toList, Array.getElem?_eq_getElem hk']
  rfl
theorem res_cell {fn : Func} {p s : Tmp} (h : fn.results = #[.cell p 78, .tmp s]) (tmps : Array Value) (w : World) (g : Nat) (cs : Array Value) (hp : tmps.getD p undef = .pointer (some ⟨g, 0, none⟩)) (hg : w.heap[g]? = some (.cells cs 78 (0, 0))) (hi : (Tryd.prog.info? 78).map (·.size) = some cs.size) :
    (results fn tmps).run Tryd.prog w = .ok (.tuple #[.agg cs, tmps.getD s undef]) w := by
  have hp' : tmps[p]?.getD undef = .pointer (some ⟨g, 0, none⟩) := by simpa using hp
  have hl := run_loadVar_row (P := Tryd.prog) w g 78 78 cs (0, 0) _ hg Tryd.underlying78 rfl hi
  simp [results, h, hp', asAddr, hl]
theorem set4 {U : World} {g : Nat} {a b c d : Value} {t : TypeId} (h : U.heap[g]? = some (.cells #[a, b, c, d] t (0, 0))) (x0 x1 x2 x3 : Value) :
    ((((U.setCell ⟨g, 0, none⟩ x0).setCell ⟨g, 1, none⟩ x1).setCell ⟨g, 2, none⟩ x2).setCell ⟨g, 3, none⟩ x3).heap[g]? = some (.cells #[x0, x1, x2, x3] t (0, 0)) := by
  have h1 : (U.setCell ⟨g, 0, none⟩ x0).heap[g]? = some (.cells #[x0, b, c, d] t (0, 0)) := by rw [heap_setCell_same _ _ _ _ _ _ h]; rfl
  have h2 : ((U.setCell ⟨g, 0, none⟩ x0).setCell ⟨g, 1, none⟩ x1).heap[g]? = some (.cells #[x0, x1, c, d] t (0, 0)) := by rw [heap_setCell_same _ _ _ _ _ _ h1]; rfl
  have h3 : (((U.setCell ⟨g, 0, none⟩ x0).setCell ⟨g, 1, none⟩ x1).setCell ⟨g, 2, none⟩ x2).heap[g]? = some (.cells #[x0, x1, x2, d] t (0, 0)) := by rw [heap_setCell_same _ _ _ _ _ _ h2]; rfl
  rw [heap_setCell_same _ _ _ _ _ _ h3]
  rfl
theorem below4 {B : Nat} {w U : World} {g : Nat} (h : Below B w U) (hg : B ≤ g) (x0 x1 x2 x3 : Value) : Below B w ((((U.setCell ⟨g, 0, none⟩ x0).setCell ⟨g, 1, none⟩ x1).setCell ⟨g, 2, none⟩ x2).setCell ⟨g, 3, none⟩ x3) := (((h.setCell hg _).setCell hg _).setCell hg _).setCell hg _
theorem infoC : (Tryd.prog.info? 78).map (·.size) = some 4 := by kernel_rfl
set_option maxRecDepth 100000 in
set_option maxHeartbeats 2000000 in
theorem parse_any {w : World} {st W : Nat} (c1 : w.cell? ⟨st, 1, none⟩ = some (.int .i64 (W : Int))) (hW : W ≤ 32) (key v : ByteArray) :
    Calls Tryd.prog 44 #[.pointer (some ⟨st, 0, none⟩), .string key, .string v] w fun e w' => ParTo w (parseF W (key, v)) e w' := by
  have hst : st < w.heap.size := World.block_lt_of_cell? w _ c1
  obtain ⟨rb, hrb⟩ : ∃ rb, w.heap.size = rb := ⟨_, rfl⟩
  obtain ⟨e1, he1⟩ : ∃ e1, W + 1 = e1 := ⟨_, rfl⟩
  have ke1 : (1 : Int) + (W : Int) = (e1 : Int) := by omega
  obtain ⟨e2, he2⟩ : ∃ e2, e1 + 1 = e2 := ⟨_, rfl⟩
  have ke2 : (e1 : Int) + 1 = (e2 : Int) := by omega
  obtain ⟨W1, hW1⟩ : ∃ W1, w.alloc (.cells #[.string ⟨#[]⟩, .int .i64 0, .int .u32 0, .string ⟨#[]⟩] 78) = W1 := ⟨_, rfl⟩
  have r1 : W1.heap[rb]? = some (.cells #[.string ⟨#[]⟩, .int .i64 0, .int .u32 0, .string ⟨#[]⟩] 78 (0, 0)) := by rw [← hW1, ← hrb]; exact heap_alloc_new w _
  have hb1 : Below w.heap.size w W1 := by rw [← hW1]; exact (Below.refl _ w).alloc (Nat.le_refl _) _
  have d1 : W1.cell? ⟨st, 1, none⟩ = some (.int .i64 (W : Int)) := by rw [hb1.cell hst]; exact c1
  have z0 : W1.cell? ⟨rb, 0, none⟩ = some (.string ⟨#[]⟩) := by rw [cell_of_row _ _ _ _ _ _ r1]; rfl
  have z1 : W1.cell? ⟨rb, 1, none⟩ = some (.int .i64 0) := by rw [cell_of_row _ _ _ _ _ _ r1]; rfl
  have z2 : W1.cell? ⟨rb, 2, none⟩ = some (.int .u32 0) := by rw [cell_of_row _ _ _ _ _ _ r1]; rfl
  have z3 : W1.cell? ⟨rb, 3, none⟩ = some (.string ⟨#[]⟩) := by rw [cell_of_row _ _ _ _ _ _ r1]; rfl
  have f0 := frozen_of_row W1 rb 0 _ _ r1
  have f1 := frozen_of_row W1 rb 1 _ _ r1
  have f2 := frozen_of_row W1 rb 2 _ _ r1
  have f3 := frozen_of_row W1 rb 3 _ _ r1
  have HB1 : Hid (Below w.heap.size w W1 ∧ W1.heap[rb]? = some (.cells #[.string ⟨#[]⟩, .int .i64 0, .int .u32 0, .string ⟨#[]⟩] 78 (0, 0))) := ⟨hb1, r1⟩
  clear c1 r1 hb1
  by_cases hA : key.size = W + 2 ∧ 4 ≤ v.size ∧ v.size ≤ 132
  · obtain ⟨h1, h2, h3⟩ := hA
    have k1b : ((key.size : Int) != (e2 : Int)) = false := by rw [bne_eq_false_iff_eq]; omega
    have k2 : decide ((v.size : Int) < 4) = false := decide_eq_false (by omega)
    have k3 : decide ((132 : Int) < (v.size : Int)) = false := decide_eq_false (by omega)
    have i1 : (1 : Int) ≤ (e1 : Int) := by omega
    have i2 : (e1 : Int) ≤ (key.size : Int) := by omega
    have i3 : (e1 : Int) < (key.size : Int) := by omega
    have i4 : (4 : Int) ≤ (v.size : Int) := by omega
    obtain ⟨nb, hnb⟩ : ∃ nb, (key.data.toList.getD e1 0).toNat = nb := ⟨_, rfl⟩
    have hix := str_byte key e1 nb (by omega) hnb
    have hnl : nb < 256 := by rw [← hnb]; exact UInt8.toNat_lt _
    have HNB : Hid ((key.data.toList.getD e1 0).toNat = nb) := hnb
    obtain ⟨sm, hsm⟩ : ∃ sm, key.extract 1 e1 = sm := ⟨_, rfl⟩
    obtain ⟨dt, hdt⟩ : ∃ dt, v.extract 4 v.size = dt := ⟨_, rfl⟩
    obtain ⟨xb, hxb⟩ : ∃ xb, W1.heap.size = xb := ⟨_, rfl⟩
    have hrx : rb < xb := by have := lt_of_some HB1.out.2; omega
    obtain ⟨W2, hW2⟩ : ∃ W2, (W1.alloc (.cells #[.string sm, .int .i64 (nb : Int), .int .u32 0, .string dt] 78)).drew = W2 := ⟨_, rfl⟩
    have r2 : W2.heap[xb]? = some (.cells #[.string sm, .int .i64 (nb : Int), .int .u32 ((beU v 0 : Nat) : Int), .string dt] 78 (0, 0)) := by rw [← hW2, ← hxb]; exact heap_alloc_new W1 _
    have hb12 : Below W1.heap.size W1 W2 := by rw [← hW2]; exact ((Below.refl _ W1).alloc (Nat.le_refl _) _).drew
    have HW2 : Hid (W2.heap[xb]? = some (.cells #[.string sm, .int .i64 (nb : Int), .int .u32 ((beU v 0 : Nat) : Int), .string dt] 78 (0, 0)) ∧ W2.heap[rb]? = some (.cells #[.string ⟨#[]⟩, .int .i64 0, .int .u32 0, .string ⟨#[]⟩] 78 (0, 0)) ∧ Below w.heap.size w W2) := ⟨r2, (hb12.block rb (by omega)).trans HB1.out.2, HB1.out.1.trans (hb12.mono HB1.out.1.size)⟩
    have HSD : Hid (key.extract 1 e1 = sm ∧ v.extract 4 v.size = dt) := ⟨hsm, hdt⟩
    have HHW : Hid (W + 1 = e1) := he1
    clear r2 hb12 hnb he1 he2
    have HH1 : Hid (key.size = W + 2 ∧ 4 ≤ v.size ∧ v.size ≤ 132) := ⟨h1, h2, h3⟩
    clear h1 h3
    go_enter Tryd.func44, Tryd.ntmps44
    go_wp2
    go_region
    go_wp2
    clear z0 z1 z2 z3 f0 f1 f2 f3 d1 hix k1b k2 k3 hsm hdt
    go_loopw [43] (fun vi wr => ∃ k : Nat, k ≤ 4 ∧ vi = .int .i64 k ∧ wr.heap[xb]? = some (.cells #[.string sm, .int .i64 (nb : Int), .int .u32 ((beU v k : Nat) : Int), .string dt] 78 (0, 0)) ∧ wr.heap[rb]? = some (.cells #[.string ⟨#[]⟩, .int .i64 0, .int .u32 0, .string ⟨#[]⟩] 78 (0, 0)) ∧ Below w.heap.size w wr) (fun vi _ => 4 - (intOf vi).toNat)
    case atStart => exact ⟨0, by omega, rfl, HW2.out⟩
    case round =>
      clear HW2 hW2
      obtain ⟨k, hk4, rfl, hx, hr, hbw⟩ := hrel
      by_cases hlt : k < 4
      · have kk : (k : Int) < 4 := by omega
        obtain ⟨x, hxe⟩ : ∃ x, beU v k = x := ⟨_, rfl⟩
        have hxl : x < 16777216 := by
          have h5 := beU_lt v k
          have h6 : 256 ^ k ≤ 256 ^ 3 := Nat.pow_le_pow_right (by omega) (by omega)
          rw [hxe] at h5
          omega
        obtain ⟨bb, hbb⟩ : ∃ bb, (v.data.toList.getD k 0).toNat = bb := ⟨_, rfl⟩
        have hbl : bb < 256 := by rw [← hbb]; exact UInt8.toNat_lt _
        have hnx : beU v (k + 1) = x * 256 + bb := by show beU v k * 256 + _ = _; rw [hxe, hbb]
        rw [hxe] at hx
        have c2 : wr.cell? ⟨xb, 2, none⟩ = some (.int .u32 (x : Int)) := by rw [cell_of_row _ _ _ _ _ _ hx]; rfl
        have fr2 := frozen_of_row wr xb 2 _ _ hx
        have hiv := str_byte v k bb (by have := HH1.out.2.1; omega) hbb
        have HX : Hid (wr.heap[xb]? = some (.cells #[.string sm, .int .i64 (nb : Int), .int .u32 (x : Int), .string dt] 78 (0, 0)) ∧ wr.heap[rb]? = some (.cells #[.string ⟨#[]⟩, .int .i64 0, .int .u32 0, .string ⟨#[]⟩] 78 (0, 0)) ∧ Below w.heap.size w wr ∧ beU v (k + 1) = x * 256 + bb) := ⟨hx, hr, hbw, hnx⟩
        obtain ⟨z, hz⟩ : ∃ z, x * 256 + bb = z := ⟨_, rfl⟩
        have hor : bits BinOp.or IntKind.u32 ((x : Int) * 256) (bb : Int) = (z : Int) := by
          rw [show (x : Int) * 256 = ((x * 256 : Nat) : Int) by omega, u32_or_nat _ _ (by omega) (by omega), show x * 256 = x * 2 ^ 8 from rfl, or_low 8 x bb (by omega)]
          congr 1
        have HZ : Hid (x * 256 + bb = z) := hz
        clear hx hr hbw hxe hbb hnx hz
        go_wp2
        go_region
        go_wp2
        have hlt2 : rb ≠ xb := by omega
        refine ⟨⟨k + 1, by omega, by go_num, ?_, ?_, ?_⟩, by simp [intOf]; omega⟩
        · show (wr.setCell ⟨xb, 2, none⟩ (.int .u32 (z : Int))).heap[xb]? = _
          rw [heap_setCell_same _ _ _ _ _ _ HX.out.1, HX.out.2.2.2, HZ.out]
          rfl
        · show (wr.setCell ⟨xb, 2, none⟩ (.int .u32 (z : Int))).heap[rb]? = _
          rw [Below.heap_setCell _ _ _ _ hlt2]
          exact HX.out.2.1
        · exact (HX.out.2.2.1.setCell (by show _ ≤ xb; omega) _).drew
      · obtain rfl : k = 4 := by omega
        obtain ⟨x, hxe⟩ : ∃ x, beU v 4 = x := ⟨_, rfl⟩
        rw [hxe] at hx
        have c0 : wr.cell? ⟨xb, 0, none⟩ = some (.string sm) := by rw [cell_of_row _ _ _ _ _ _ hx]; rfl
        have c1 : wr.cell? ⟨xb, 1, none⟩ = some (.int .i64 (nb : Int)) := by rw [cell_of_row _ _ _ _ _ _ hx]; rfl
        have c2 : wr.cell? ⟨xb, 2, none⟩ = some (.int .u32 (x : Int)) := by rw [cell_of_row _ _ _ _ _ _ hx]; rfl
        have c3 : wr.cell? ⟨xb, 3, none⟩ = some (.string dt) := by rw [cell_of_row _ _ _ _ _ _ hx]; rfl
        have z0 : wr.cell? ⟨rb, 0, none⟩ = some (.string ⟨#[]⟩) := by rw [cell_of_row _ _ _ _ _ _ hr]; rfl
        have z1 : wr.cell? ⟨rb, 1, none⟩ = some (.int .i64 0) := by rw [cell_of_row _ _ _ _ _ _ hr]; rfl
        have z2 : wr.cell? ⟨rb, 2, none⟩ = some (.int .u32 0) := by rw [cell_of_row _ _ _ _ _ _ hr]; rfl
        have z3 : wr.cell? ⟨rb, 3, none⟩ = some (.string ⟨#[]⟩) := by rw [cell_of_row _ _ _ _ _ _ hr]; rfl
        have f0 := frozen_of_row wr rb 0 _ _ hr
        have f1 := frozen_of_row wr rb 1 _ _ hr
        have f2 := frozen_of_row wr rb 2 _ _ hr
        have f3 := frozen_of_row wr rb 3 _ _ hr
        have HX : Hid (wr.heap[rb]? = some (.cells #[.string ⟨#[]⟩, .int .i64 0, .int .u32 0, .string ⟨#[]⟩] 78 (0, 0)) ∧ Below w.heap.size w wr ∧ beU v 4 = x) := ⟨hr, hbw, hxe⟩
        clear hx hr hbw hxe
        by_cases h0 : x = 0
        · have HN : Hid (parseF W (key, v) = none) := by
            show _ = _
            unfold parseF
            rw [if_neg (fun h => h.2.2.2 (by show beU v 4 = 0; rw [HX.out.2.2, h0]))]
          have kb : ((x : Int) == 0) = true := by rw [beq_iff_eq]; omega
          clear h0
          go_wp2
          refine bodyPost_ret (v := .tuple #[.agg #[.string ⟨#[]⟩, .int .i64 0, .int .u32 0, .string ⟨#[]⟩], .bool false]) ?_ rfl ⟨by rw [HN.out]; rfl, below4 HX.out.2.1 (by omega) _ _ _ _⟩
          exact res_cell (fn := Tryd.f44) (p := 6) (s := 7) (by rfl) _ _ rb _ (by rfl) (set4 HX.out.1 _ _ _ _) infoC
        · have HN : Hid (parseF W (key, v) = some ⟨sm, nb, x, dt⟩) := by
            show _ = _
            unfold parseF
            rw [if_pos ⟨HH1.out.1, HH1.out.2.1, HH1.out.2.2, by show beU v 4 ≠ 0; rw [HX.out.2.2]; exact h0⟩]
            simp only [HX.out.2.2, HHW.out, HSD.out.1, HSD.out.2, HNB.out]
          have kb : ((x : Int) == 0) = false := by rw [beq_eq_false_iff_ne]; omega
          clear h0
          go_wp2
          refine bodyPost_ret (v := .tuple #[.agg #[.string sm, .int .i64 (nb : Int), .int .u32 (x : Int), .string dt], .bool true]) ?_ rfl ⟨by rw [HN.out]; rfl, below4 HX.out.2.1 (by omega) _ _ _ _⟩
          exact res_cell (fn := Tryd.f44) (p := 6) (s := 7) (by rfl) _ _ rb _ (by rfl) (set4 HX.out.1 _ _ _ _) infoC
  · have HN : Hid (parseF W (key, v) = none) := by
      show _ = _
      unfold parseF
      rw [if_neg (fun h => hA ⟨h.1, h.2.1, h.2.2.1⟩)]
    rw [HN.out]
    by_cases h1 : key.size = W + 2
    · have k1 : ((key.size : Int) == (e2 : Int)) = true := by rw [beq_iff_eq]; omega
      have k1n : (key.size : Int) = (e2 : Int) := by omega
      have k1b : ((key.size : Int) != (e2 : Int)) = false := by rw [bne_eq_false_iff_eq]; omega
      have HH1 : Hid (key.size = W + 2) := h1
      by_cases h2 : 4 ≤ v.size
      · have k2 : decide ((v.size : Int) < 4) = false := decide_eq_false (by omega)
        have k3 : decide ((132 : Int) < (v.size : Int)) = true := decide_eq_true (by omega)
        clear h1 k1n
        go_enter Tryd.func44, Tryd.ntmps44
        go_wp2
        refine bodyPost_ret (v := .tuple #[.agg #[.string ⟨#[]⟩, .int .i64 0, .int .u32 0, .string ⟨#[]⟩], .bool false]) ?_ rfl ⟨rfl, below4 HB1.out.1 (by omega) _ _ _ _⟩
        exact res_cell (fn := Tryd.f44) (p := 6) (s := 7) (by rfl) _ _ rb _ (by rfl) (set4 HB1.out.2 _ _ _ _) infoC
      · have k2 : decide ((v.size : Int) < 4) = true := decide_eq_true (by omega)
        clear h1 k1n
        go_enter Tryd.func44, Tryd.ntmps44
        go_wp2
        refine bodyPost_ret (v := .tuple #[.agg #[.string ⟨#[]⟩, .int .i64 0, .int .u32 0, .string ⟨#[]⟩], .bool false]) ?_ rfl ⟨rfl, below4 HB1.out.1 (by omega) _ _ _ _⟩
        exact res_cell (fn := Tryd.f44) (p := 6) (s := 7) (by rfl) _ _ rb _ (by rfl) (set4 HB1.out.2 _ _ _ _) infoC
    · have k1 : ((key.size : Int) == (e2 : Int)) = false := by rw [beq_eq_false_iff_ne]; omega
      have k1n : ¬ (key.size : Int) = (e2 : Int) := by omega
      go_enter Tryd.func44, Tryd.ntmps44
      go_wp2
      refine bodyPost_ret (v := .tuple #[.agg #[.string ⟨#[]⟩, .int .i64 0, .int .u32 0, .string ⟨#[]⟩], .bool false]) ?_ rfl ⟨rfl, below4 HB1.out.1 (by omega) _ _ _ _⟩
      exact res_cell (fn := Tryd.f44) (p := 6) (s := 7) (by rfl) _ _ rb _ (by rfl) (set4 HB1.out.2 _ _ _ _) infoC
end Go.Proofs.YtjpkngbjjgimjaaDoor
