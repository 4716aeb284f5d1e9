/- How slices of steps, and of bools, are opened out of a reading. -/
import Derived.Test.YtdlmciicapigjaaN
import Derived.Deep.Slices
namespace Go.Proofs.Ytdlmciicapigjaa
open Go.ChangeShapes Go.WideShapes Go.ChangeAt Go.RowKit Go.Deep Go.Shelf
/-- A step, as the walks are told it. -/
structure OpV where
  kind : Int
  at_ : Int
  long : Int
  fill : Nat
  pa : Option Addr
  pl : Nat
  pc : Nat
  picks : List Bool
instance : Inhabited OpV := ⟨⟨0, 0, 0, 0, none, 0, 0, []⟩⟩
def OpV.agg (o : OpV) : Value := .agg #[.int .i64 o.kind, .int .i64 o.at_, .int .i64 o.long, .int .u8 (o.fill : Int), .slice o.pa o.pl o.pc]
/-- Numbers that are numbers, and picks that lie in memory. -/
def OpV.In (w : World) (o : OpV) : Prop :=
  (-9223372036854775808 ≤ o.kind ∧ o.kind ≤ 9223372036854775807) ∧ (-9223372036854775808 ≤ o.at_ ∧ o.at_ ≤ 9223372036854775807) ∧ (-9223372036854775808 ≤ o.long ∧ o.long ≤ 9223372036854775807) ∧ o.fill < 256 ∧ Bls w o.pa o.pl o.pc o.picks
def Os (w : World) (a : Option Addr) (len cap : Nat) (l : List OpV) : Prop :=
  l.length = len ∧ len ≤ cap ∧ cap ≤ 9223372036854775807 ∧ (0 < len → ∃ b o, a = some ⟨b, o, none⟩ ∧ b < w.heap.size ∧ ∀ i (h : i < l.length),
    w.cell? ⟨b, o + i * 5, none⟩ = some (.int .i64 l[i].kind) ∧ w.cell? ⟨b, o + i * 5 + 1, none⟩ = some (.int .i64 l[i].at_) ∧ w.cell? ⟨b, o + i * 5 + 2, none⟩ = some (.int .i64 l[i].long) ∧
      w.cell? ⟨b, o + i * 5 + 3, none⟩ = some (.int .u8 (l[i].fill : Int)) ∧ w.cell? ⟨b, o + i * 5 + 4, none⟩ = some (.slice l[i].pa l[i].pl l[i].pc) ∧ l[i].In w)
theorem bools_of {H : Type} {enc : TypeId × Value → H} {W : World} {base : Nat} {spare : Nat → Bool} {held : Bool} {fuel : Nat} {a : Option Addr} {len cap : Nat} {x : DataW H × List MemPlace}
    (hf : DataW.trod enc Try.prog W base spare held fuel 44 [.slice a len cap] = some x) : ∃ l, Bls W a len cap l := by
  rcases open_slice1 Try.underlying44 (by kernel_rfl) hf with ⟨hcs, _⟩ | ⟨ad, l, c, m, n, V, D, Pl, hcs, _, hl, hm, hmm, _, hV⟩
  · simp only [List.cons.injEq, Value.slice.injEq, and_true] at hcs
    obtain ⟨rfl, rfl, rfl⟩ := hcs
    exact ⟨[], Bls.nil W⟩
  · simp only [List.cons.injEq, Value.slice.injEq, and_true] at hcs
    obtain ⟨rfl, rfl, rfl⟩ := hcs
    have hlm : len ≤ m := by rw [hmm]; split <;> omega
    have hb : ∀ i, i < len → ∃ b : Bool, W.cell? (ad.add i) = some (.bool b) := by
      intro i hi
      obtain ⟨h1, h2⟩ := hV i (by omega)
      obtain ⟨b, hb, _⟩ := DataW.trod_bool Try.underlying4 h2
      simp only [List.cons.injEq, and_true] at hb
      exact ⟨b, by rw [h1, hb]⟩
    obtain ⟨f, hf⟩ := choose_lt hb
    refine ⟨(List.range len).map f, by simp, hl, by simpa [maxLen] using hm, fun h0 => ?_⟩
    obtain ⟨bb, oo, spot⟩ := ad
    have hspot : spot = none := by simpa [Addr.add] using World.cell?_spot (hf 0 h0)
    subst hspot
    refine ⟨bb, oo, rfl, fun i hi => ?_⟩
    simp only [List.length_map, List.length_range] at hi
    have := hf i hi
    rw [add_at] at this
    rw [this]
    simp
theorem cells46 : Try.prog.cellsOf 46 = 5 := by kernel_rfl
theorem fields46 : Try.prog.underlying 46 = some (.struct (Try.prog.fieldsOf 46)) := by kernel_rfl
theorem op_of {H : Type} {enc : TypeId × Value → H} {W : World} {base : Nat} {spare : Nat → Bool} {held : Bool} {fuel : Nat} {cs : List Value} {x : DataW H × List MemPlace}
    (hf : DataW.trod enc Try.prog W base spare held fuel 46 cs = some x) : ∃ o : OpV, cs = [.int .i64 o.kind, .int .i64 o.at_, .int .i64 o.long, .int .u8 (o.fill : Int), .slice o.pa o.pl o.pc] ∧ (-9223372036854775808 ≤ o.kind ∧ o.kind ≤ 9223372036854775807) ∧ (-9223372036854775808 ≤ o.at_ ∧ o.at_ ≤ 9223372036854775807) ∧ (-9223372036854775808 ≤ o.long ∧ o.long ≤ 9223372036854775807) ∧ o.fill < 256 ∧ Bls W o.pa o.pl o.pc o.picks := by
  obtain ⟨xs, n, _, _, hl, hx, hi⟩ := DataW.trod_struct Try.underlying46 hf
  rw [cells46] at hl
  match cs, hl with
  | [c0, c1, c2, c3, c4], _ =>
    match xs, hx with
    | [x0, x1, x2, x3, x4], _ =>
      have h0 : DataW.trod enc Try.prog W base spare held n 3 (([c0, c1, c2, c3, c4].drop 0).take (Try.prog.cellsOf 3)) = some x0 := hi 0 _ rfl
      rw [show Try.prog.cellsOf 3 = 1 by kernel_rfl, show ([c0, c1, c2, c3, c4].drop 0).take 1 = [c0] from rfl] at h0
      have h1 : DataW.trod enc Try.prog W base spare held n 3 (([c0, c1, c2, c3, c4].drop 1).take (Try.prog.cellsOf 3)) = some x1 := hi 1 _ rfl
      rw [show Try.prog.cellsOf 3 = 1 by kernel_rfl, show ([c0, c1, c2, c3, c4].drop 1).take 1 = [c1] from rfl] at h1
      have h2 : DataW.trod enc Try.prog W base spare held n 3 (([c0, c1, c2, c3, c4].drop 2).take (Try.prog.cellsOf 3)) = some x2 := hi 2 _ rfl
      rw [show Try.prog.cellsOf 3 = 1 by kernel_rfl, show ([c0, c1, c2, c3, c4].drop 2).take 1 = [c2] from rfl] at h2
      have h3 : DataW.trod enc Try.prog W base spare held n 5 (([c0, c1, c2, c3, c4].drop 3).take (Try.prog.cellsOf 5)) = some x3 := hi 3 _ rfl
      rw [show Try.prog.cellsOf 5 = 1 by kernel_rfl, show ([c0, c1, c2, c3, c4].drop 3).take 1 = [c3] from rfl] at h3
      have h4 : DataW.trod enc Try.prog W base spare held n 44 (([c0, c1, c2, c3, c4].drop 4).take (Try.prog.cellsOf 44)) = some x4 := hi 4 _ rfl
      rw [show Try.prog.cellsOf 44 = 1 by kernel_rfl, show ([c0, c1, c2, c3, c4].drop 4).take 1 = [c4] from rfl] at h4
      obtain ⟨k, e0, _, w0⟩ := DataW.trod_int Try.underlying3 h0
      obtain ⟨a, e1, _, w1⟩ := DataW.trod_int Try.underlying3 h1
      obtain ⟨l, e2, _, w2⟩ := DataW.trod_int Try.underlying3 h2
      obtain ⟨f, e3, _, w3⟩ := DataW.trod_int Try.underlying5 h3
      simp only [List.cons.injEq, and_true] at e0 e1 e2 e3
      have r3 := wf_u8 w3
      obtain ⟨f, rfl⟩ := Int.eq_ofNat_of_zero_le r3.1
      obtain ⟨pa, pl, pc, e4⟩ : ∃ pa pl pc, c4 = .slice pa pl pc := by
        rcases open_slice1 Try.underlying44 (by kernel_rfl) h4 with ⟨hcs, _⟩ | ⟨ad, l, c, m, n, V, D, Pl, hcs, _⟩
        · simp only [List.cons.injEq, and_true] at hcs
          exact ⟨_, _, _, hcs⟩
        · simp only [List.cons.injEq, and_true] at hcs
          exact ⟨_, _, _, hcs⟩
      subst e0 e1 e2 e3 e4
      obtain ⟨bs, hbs⟩ := bools_of h4
      exact ⟨⟨k, a, l, f, pa, pl, pc, bs⟩, rfl, wf_i64 w0, wf_i64 w1, wf_i64 w2, by show f < 256; omega, hbs⟩
theorem ops_of {H : Type} {enc : TypeId × Value → H} {W : World} {base : Nat} {spare : Nat → Bool} {held : Bool} {fuel : Nat} {a : Option Addr} {len cap : Nat} {x : DataW H × List MemPlace}
    (hf : DataW.trod enc Try.prog W base spare held fuel 36 [.slice a len cap] = some x) : ∃ l, Os W a len cap l := by
  rcases open_slice Try.underlying36 hf with ⟨hcs, _⟩ | ⟨ad, l, c, m, n, D, Pl, hcs, _, hl, hm, hmm, _, hV⟩
  · simp only [List.cons.injEq, Value.slice.injEq, and_true] at hcs
    obtain ⟨rfl, rfl, rfl⟩ := hcs
    exact ⟨[], rfl, by omega, by omega, by omega⟩
  · simp only [List.cons.injEq, Value.slice.injEq, and_true] at hcs
    obtain ⟨rfl, rfl, rfl⟩ := hcs
    have hlm : len ≤ m := by rw [hmm]; split <;> omega
    rw [cells46] at hV
    have hb : ∀ i, i < len → ∃ o : OpV, (W.cell? (ad.add (i * 5)) = some (.int .i64 o.kind) ∧ W.cell? ((ad.add (i * 5)).add 1) = some (.int .i64 o.at_) ∧ W.cell? ((ad.add (i * 5)).add 2) = some (.int .i64 o.long) ∧ W.cell? ((ad.add (i * 5)).add 3) = some (.int .u8 (o.fill : Int)) ∧ W.cell? ((ad.add (i * 5)).add 4) = some (.slice o.pa o.pl o.pc)) ∧ o.In W := by
      intro i hi
      obtain ⟨cs', h1, h2⟩ := hV i (by omega)
      obtain ⟨o, rfl, hr⟩ := op_of h2
      obtain ⟨_, _, hc⟩ := World.cells?_some h1
      refine ⟨o, ⟨?_, hc 1 (by omega), hc 2 (by omega), hc 3 (by omega), hc 4 (by omega)⟩, hr⟩
      have := hc 0 (by omega)
      rwa [show (ad.add (i * 5)).add 0 = ad.add (i * 5) by rw [add_add, Nat.add_zero]] at this
    obtain ⟨f, hf⟩ := choose_lt (α := OpV) hb
    refine ⟨(List.range len).map f, by simp, hl, by simpa [maxLen] using hm, fun h0 => ?_⟩
    obtain ⟨bb, oo, spot⟩ := ad
    have hspot : spot = none := by simpa [Addr.add] using World.cell?_spot (hf 0 h0).1.1
    subst hspot
    refine ⟨bb, oo, rfl, ?_, fun i hi => ?_⟩
    · have := World.block_lt_of_cell? W _ (hf 0 h0).1.1
      rwa [add_at] at this
    · simp only [List.length_map, List.length_range] at hi
      have := hf i hi
      simp only [add_at] at this
      simp only [List.getElem_map, List.getElem_range]
      exact ⟨this.1.1, this.1.2.1, this.1.2.2.1, this.1.2.2.2.1, this.1.2.2.2.2, this.2⟩
theorem ops2_of {H : Type} {enc : TypeId × Value → H} {W : World} {b0 base : Nat} {spare : Nat → Bool} {held : Bool} {v : Value} {d : DataW H} {p : List MemPlace} (hv : Value.okWide Try.prog W .any b0 51 v) (h : DataW.Trod enc Try.prog W base spare held 51 v d p) :
    ∃ a len cap l b ben bap m, v = .agg #[.slice a len cap, .slice b ben bap] ∧ Os W a len cap l ∧ Os W b ben bap m := by
  unfold Value.okWide at hv
  rw [Try.underlying51] at hv
  obtain ⟨cs, rfl, hsz, _⟩ := hv
  rw [show Try.prog.cellsOf 51 = 2 by kernel_rfl] at hsz
  obtain ⟨c0, c1, rfl⟩ : ∃ c0 c1, cs = #[c0, c1] := by
    obtain ⟨l⟩ := cs
    match l, hsz with
    | [c0, c1], _ => exact ⟨c0, c1, rfl⟩
  obtain ⟨fuel, hf⟩ := h
  obtain ⟨ys, m, _, _, _, hl, hy⟩ := DataW.trod_array Try.underlying51 hf
  have h0 := hy 0 (by omega)
  have h1 := hy 1 (by omega)
  rw [show Try.prog.cellsOf 36 = 1 by kernel_rfl] at h0 h1
  rw [List.getElem?_eq_getElem (by omega)] at h0 h1
  have k0 : DataW.trod enc Try.prog W base spare held m 36 [c0] = some ys[0] := by simpa [Value.cells] using h0
  have k1 : DataW.trod enc Try.prog W base spare held m 36 [c1] = some ys[1] := by simpa [Value.cells] using h1
  have sl : ∀ c x, DataW.trod enc Try.prog W base spare held m 36 [c] = some x → ∃ a len cap, c = .slice a len cap := by
    intro c x hc
    rcases open_slice Try.underlying36 hc with ⟨hcs, _⟩ | ⟨ad, l, c, m, n, D, Pl, hcs, _⟩
    · simp only [List.cons.injEq, and_true] at hcs
      exact ⟨_, _, _, hcs⟩
    · simp only [List.cons.injEq, and_true] at hcs
      exact ⟨_, _, _, hcs⟩
  obtain ⟨a, len, cap, rfl⟩ := sl _ _ k0
  obtain ⟨b, ben, bap, rfl⟩ := sl _ _ k1
  obtain ⟨l, hl⟩ := ops_of k0
  obtain ⟨m', hm⟩ := ops_of k1
  exact ⟨a, len, cap, l, b, ben, bap, m', rfl, hl, hm⟩
theorem Os.nil {w : World} {a : Option Addr} {cap : Nat} {l : List OpV} (h : Os w a 0 cap l) : l = [] := List.eq_nil_of_length_eq_zero h.1
theorem Os.on {w w' : World} {a : Option Addr} {len cap : Nat} {l : List OpV} (h : Os w a len cap l) (hb : Below w.heap.size w w') : Os w' a len cap l := by
  obtain ⟨h1, h2, h3, h4⟩ := h
  refine ⟨h1, h2, h3, fun h0 => ?_⟩
  obtain ⟨b, o, rfl, hlt, hc⟩ := h4 h0
  refine ⟨b, o, rfl, Nat.lt_of_lt_of_le hlt hb.size, fun i hi => ?_⟩
  obtain ⟨d0, d1, d2, d3, d4, d5⟩ := hc i hi
  refine ⟨by rw [hb.cell hlt]; exact d0, by rw [hb.cell hlt]; exact d1, by rw [hb.cell hlt]; exact d2, by rw [hb.cell hlt]; exact d3, by rw [hb.cell hlt]; exact d4, ?_⟩
  exact ⟨d5.1, d5.2.1, d5.2.2.1, d5.2.2.2.1, d5.2.2.2.2.below hb⟩
set_option maxHeartbeats 400000 in
/-- The power fails with no picks, wherever their slice points. -/
theorem fail_zero {S : Nat → Prop} {g : Nat} {D : Dk} {w : World} (h : DiskIs w S g D) (a : Option Addr) (cap : Nat) (hcap : cap ≤ 9223372036854775807) :
    Calls Try.prog 10 #[.pointer (some ⟨g, 0, none⟩), .slice a 0 cap] w fun e w' => e = .returned (.tuple #[]) ∧ DiskIs w' S g (D.failed (pickOf [])) ∧ Upd S w w' := by
  have hbd := h.bd
  have h1 : DiskIs (w.alloc (.cells #[.slice a 0 cap] 44)) S g D := h.below ((Below.refl _ w).alloc (Nat.le_refl _) _)
  obtain ⟨kb, kc, sb, sc, wa, wc, h1⟩ := h1
  have hbox : (w.alloc (.cells #[.slice a 0 cap] 44)).cell? ⟨w.heap.size, 0, none⟩ = some (.slice a 0 cap) := by
    rw [cell_of_row _ w.heap.size _ _ _ _ (heap_alloc_new w _)]; rfl
  have hnS : ¬ S w.heap.size := fun s => by have := hbd _ s; omega
  have HS := settle_any 33 #[.pointer (some ⟨w.heap.size, 0, none⟩)] (pickOf []) h1 (enters_of Try.func33 (by kernel_rfl) rfl) (fun i _ W hW => by
    refine pick_any i w.heap.size a 0 cap [] W ?_ ⟨rfl, Nat.zero_le _, hcap, fun h => absurd h (by omega)⟩
    rw [World.cell?_of_block (w := w.alloc (.cells #[.slice a 0 cap] 44)) (hW.block w.heap.size (by simp) hnS)]
    exact hbox)
  have HU0 : Hid (Upd S w (w.alloc (.cells #[.slice a 0 cap] 44))) := (Upd.refl S w).alloc _
  clear h h1 hbox hnS
  go_enter Try.func10, Try.ntmps10
  go_wp2_with fail
  refine HS.mono ?_
  rintro e w' ⟨rfl, h1, h2⟩
  obtain ⟨c0, c1, c2, c3, c4, c5⟩ := h1.cells
  have f4 := h1.fro 4
  have f5 := h1.fro 5
  have HL : Hid (Lies ((w'.setCell ⟨g, 4, none⟩ (.int .i64 0)).setCell ⟨g, 5, none⟩ (.bool false)) S g kb kc sb sc none 0 (D.failed (pickOf []))) := by
    refine h1.turn _ rfl rfl ?_ ?_ ?_
    · exact ⟨h1.ok.n1, h1.ok.n2, h1.ok.at_, by simp [Dk.failed], h1.ok.ww, h1.ok.wr⟩
    · rw [heap_setCell_same _ g 5 _ _ _ (heap_setCell_same w' g 4 _ _ _ h1.c)]
      rfl
    · intro x hx
      rw [heap_setCell_other _ _ _ _ hx, heap_setCell_other _ _ _ _ hx]
  have HU : Hid (Upd S w ((w'.setCell ⟨g, 4, none⟩ (.int .i64 0)).setCell ⟨g, 5, none⟩ (.bool false))) := ((HU0.out.trans h2 (fun _ h _ => h)).setCell (fun _ => h1.Sg) _).setCell (fun _ => h1.Sg) _
  clear h1 h2 HS HU0
  go_wp2
  refine bodyPost_end (v := .tuple #[]) ?_ rfl ⟨rfl, ⟨_, _, _, _, _, _, HL.out⟩, HU.out⟩
  simp [results, go_sem]
/-- The power fails, with picks that came in. -/
theorem fail_picks {S : Nat → Prop} {g : Nat} {D : Dk} {w0 w : World} (h : DiskIs w S g D) (a : Option Addr) (len cap : Nat) (bs : List Bool) (hb : Bls w0 a len cap bs) (h0 : Below w0.heap.size w0 w) (hS : ∀ x, S x → w0.heap.size ≤ x) :
    Calls Try.prog 10 #[.pointer (some ⟨g, 0, none⟩), .slice a len cap] w fun e w' => e = .returned (.tuple #[]) ∧ DiskIs w' S g (D.failed (pickOf bs)) ∧ Upd S w w' := by
  by_cases hl : 0 < len
  · exact fail_any h a len cap bs (hb.below h0) (fun x hx hs => by have := hS x hs; have := hb.lt hl x hx; omega)
  · obtain rfl : len = 0 := by omega
    have e : bs = [] := List.eq_nil_of_length_eq_zero hb.1
    subst e
    exact fail_zero h a cap hb.2.2.1
theorem failp_h {w0 w : World} {g : Nat} {D : Dk} (h : Has w0 w g D) (a : Option Addr) (len cap : Nat) (bs : List Bool) (hb : Bls w0 a len cap bs) : Calls Try.prog 10 #[.pointer (some ⟨g, 0, none⟩), .slice a len cap] w fun e w' => e = .returned (.tuple #[]) ∧ Has w0 w' g (D.failed (pickOf bs)) := by
  obtain ⟨h0, S, h, hS⟩ := h
  refine (fail_picks h a len cap bs hb h0 hS).mono ?_
  rintro e w' ⟨rfl, hd, hup⟩
  exact ⟨rfl, Has.upd h0 hS hd hup⟩
end Go.Proofs.Ytdlmciicapigjaa
