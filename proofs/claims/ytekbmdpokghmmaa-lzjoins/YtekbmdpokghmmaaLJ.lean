/- choose's closure. -/
import Derived.Test.YtekbmdpokghmmaaLI
namespace Go.Proofs.Ytekbmdpokghmmaa
open Go.RowKit Lz
theorem strOf_mid (x : List UInt8) (p q : Nat) : (strOf x).extract p q = strOf ((x.drop p).take (q - p)) := by
  apply ByteArray.ext
  simp [strOf, ByteArray.data_extract]
theorem sl_str (x : List UInt8) (p q : Nat) (hp : p ≤ q) (hq : q ≤ x.length) (W : World) : (Instr.sliceAt 9 (.string (strOf x)) (some (.int .i64 (p : Int))) (some (.int .i64 (q : Int))) none).run Try.prog W = .ok (.string (strOf ((x.drop p).take (q - p)))) W := by
  have hz := strOf_size x
  rw [← strOf_mid]
  simp [Instr.sliceAt, Instr.slice, run_underlying Try.underlying9, Instr.sliceBounds, Instr.sliceBound, asIntOf, hz, hp, hq]
/-- choose's variables: how far, the text, the closure. -/
structure ChC (w : World) (D X L d f : Nat) (T : ByteArray) (lb : Array Value) : Prop where
  d : w.heap[D]? = some (.cells #[.int .i64 (d : Int)] 3 (0, 0))
  x : w.heap[X]? = some (.cells #[.string T] 9 (0, 0))
  l : w.heap[L]? = some (.cells #[.func (.func f) #[] lb] 52 (0, 0))
theorem ChC.keep {w w' : World} {D X L d f : Nat} {T : ByteArray} {lb : Array Value} (h : ChC w D X L d f T lb) (hD : w'.heap[D]? = w.heap[D]?) (hX : w'.heap[X]? = w.heap[X]?) (hL : w'.heap[L]? = w.heap[L]?) : ChC w' D X L d f T lb :=
  ⟨hD.trans h.d, hX.trans h.x, hL.trans h.l⟩
theorem ChC.below {w w' : World} {D X L d f : Nat} {T : ByteArray} {lb : Array Value} (h : ChC w D X L d f T lb) (hb : Below w.heap.size w w') : ChC w' D X L d f T lb :=
  h.keep (hb.block _ (lt_of_some h.d)) (hb.block _ (lt_of_some h.x)) (hb.block _ (lt_of_some h.l))
theorem ChC.cells {w : World} {D X L d f : Nat} {T : ByteArray} {lb : Array Value} (h : ChC w D X L d f T lb) : w.cell? ⟨D, 0, none⟩ = some (.int .i64 (d : Int)) ∧ w.cell? ⟨X, 0, none⟩ = some (.string T) ∧ w.cell? ⟨L, 0, none⟩ = some (.func (.func f) #[] lb) := by
  refine ⟨?_, ?_, ?_⟩
  · rw [cell_of_row _ _ _ _ _ _ h.d]; rfl
  · rw [cell_of_row _ _ _ _ _ _ h.x]; rfl
  · rw [cell_of_row _ _ _ _ _ _ h.l]; rfl
/-- Blocks that no closure turns. -/
structure Off (F : Nat → Prop) (D X L : Nat) : Prop where
  d : ¬ F D
  x : ¬ F X
  l : ¬ F L
  n1 : D ≠ X
  n2 : D ≠ L
/-- What choose's closure leaves. -/
def OwTo (w : World) (D X L d f : Nat) (T : ByteArray) (lb : Array Value) (Inv : World → List Tk → (Nat → Prop) → Prop) (ts : List Tk) (F : Nat → Prop) (w' : World) : Prop :=
  ∃ F', Inv w' ts F' ∧ (∀ x, F' x → F x ∨ w.heap.size ≤ x) ∧ ChC w' D X L d f T lb ∧ Upd (fun x => F x ∨ x = D) w w'
def numAt (w : World) (D : Nat) : Nat := match w.cell? ⟨D, 0, none⟩ with
  | some v => (intOf v).toNat
  | none => 0
theorem numAt_ch {w : World} {D X L d f : Nat} {T : ByteArray} {lb : Array Value} (h : ChC w D X L d f T lb) : numAt w D = d := by
  unfold numAt
  rw [h.cells.1]
  rfl
theorem cell_kept {w w' : World} (h : Below w.heap.size w w') {D : Nat} {v : Value} (hc : w.cell? ⟨D, 0, none⟩ = some v) (hf : w.frozen? ⟨D, 0, none⟩ = false) : w'.cell? ⟨D, 0, none⟩ = some v ∧ w'.frozen? ⟨D, 0, none⟩ = false :=
  ⟨keepc h hc, (h.frozen (p := ⟨D, 0, none⟩) (World.block_lt_of_cell? w _ hc)).trans hf⟩
/-- What stays behind a call of the closure. -/
theorem own_kept {w wr W1 V3 : World} {R D X L d d0 f C size : Nat} {T T0 : ByteArray} {lb : Array Value} {Inv : World → List Tk → (Nat → Prop) → Prop} {F F' F3 : Nat → Prop} {ts : List Tk} {o : Obj} (ho : Off F D X L) (hi : Inv wr ts F') (hly : LyV R size f lb Inv) (hf : ∀ x, F' x → F x ∨ w.heap.size ≤ x) (hch : ChC wr D X L d f T lb) (hc0 : ChC w D X L d0 f T0 lb) (hb : Below wr.heap.size wr W1) (hf3 : ∀ x, F3 x → F' x ∨ W1.heap.size ≤ x) (hu : Upd F' W1 V3) (hC : wr.heap.size ≤ C) (hr : W1.heap[C]? = some o) (hsz : w.heap.size ≤ wr.heap.size) :
    V3.heap[D]? = some (.cells #[.int .i64 (d : Int)] 3 (0, 0)) ∧ V3.heap[X]? = some (.cells #[.string T] 9 (0, 0)) ∧ V3.heap[L]? = some (.cells #[.func (.func f) #[] lb] 52 (0, 0)) ∧ V3.heap[C]? = some o ∧ ¬ F3 D ∧ ∀ x, F3 x → F x ∨ w.heap.size ≤ x := by
  have hs := hb.size
  have k1 := lt_of_some hch.d
  have k2 := lt_of_some hch.x
  have k3 := lt_of_some hch.l
  have g1 := lt_of_some hc0.d
  have g2 := lt_of_some hc0.x
  have g3 := lt_of_some hc0.l
  have n1 : ¬ F' D := fun h => by rcases hf D h with h | h; exact ho.d h; omega
  have n2 : ¬ F' X := fun h => by rcases hf X h with h | h; exact ho.x h; omega
  have n3 : ¬ F' L := fun h => by rcases hf L h with h | h; exact ho.l h; omega
  have n4 : ¬ F' C := fun h => by have := ((hly.lt _ _ _ hi).2 C h).2; omega
  refine ⟨?_, ?_, ?_, ?_, ?_, ?_⟩
  · rw [hu.block D (by omega) n1, hb.block D k1]; exact hch.d
  · rw [hu.block X (by omega) n2, hb.block X k2]; exact hch.x
  · rw [hu.block L (by omega) n3, hb.block L k3]; exact hch.l
  · rw [hu.block C (lt_of_some hr) n4]; exact hr
  · intro h
    rcases hf3 D h with h | h
    · exact n1 h
    · omega
  · intro x h
    rcases hf3 x h with h | h
    · exact hf x h
    · by_cases h9 : w.heap.size ≤ x
      · exact .inr h9
      · omega
theorem own_upd {w wr W1 V3 : World} {D : Nat} {F F' : Nat → Prop} (hu : Upd (fun x => F x ∨ x = D) w wr) (hb : Below wr.heap.size wr W1) (hf : ∀ x, F' x → F x ∨ w.heap.size ≤ x) (h3 : Upd F' W1 V3) : Upd (fun x => F x ∨ x = D) w V3 := by
  refine (hu.trans (Upd.of_below (S := fun _ => False) hb) (fun _ h => h.elim)).trans h3 (fun x hx hl => ?_)
  rcases hf x hx with h | h
  · exact .inl h
  · omega
theorem own_fin {w V3 V4 : World} {R D X L d f size : Nat} {T : ByteArray} {lb : Array Value} {Inv : World → List Tk → (Nat → Prop) → Prop} {F F3 : Nat → Prop} {ts : List Tk} (ho : Off F D X L) (hly : LyV R size f lb Inv) (hi : Inv V3 ts F3) (hR : R ≤ D) (hf : ∀ x, F3 x → F x ∨ w.heap.size ≤ x) (hn : ¬ F3 D) (hch : ChC V3 D X L d f T lb) (hu : Upd (fun x => F x ∨ x = D) w V3) (hb : Below V3.heap.size V3 V4) (m : Nat) :
    Inv (V4.setCell ⟨D, 0, none⟩ (.int .i64 (m : Int))) ts F3 ∧ (∀ x, F3 x → F x ∨ w.heap.size ≤ x) ∧ ChC (V4.setCell ⟨D, 0, none⟩ (.int .i64 (m : Int))) D X L m f T lb ∧ Upd (fun x => F x ∨ x = D) w (V4.setCell ⟨D, 0, none⟩ (.int .i64 (m : Int))) := by
  have hlt := hly.lt _ _ _ hi
  have h4 := hch.below hb
  refine ⟨hly.keep _ _ _ _ hi ((hb.mono hlt.1).setCell hR _) (fun x hx => ?_), hf, ⟨?_, ?_, ?_⟩, ?_⟩
  · rw [heap_setCell_other _ _ _ _ (by show x ≠ D; intro e; rw [e] at hx; exact hn hx)]
    exact hb.block x (hlt.2 x hx).2
  · rw [heap_setCell_same _ _ _ _ _ _ h4.d]; rfl
  · rw [heap_setCell_other _ _ _ _ (by show X ≠ D; exact fun e => ho.n1 e.symm)]; exact h4.x
  · rw [heap_setCell_other _ _ _ _ (by show L ≠ D; exact fun e => ho.n2 e.symm)]; exact h4.l
  · refine Upd.setCell (S := fun x => F x ∨ x = D) (p := ⟨D, 0, none⟩) ?_ (fun _ => .inr rfl) _
    exact hu.trans (Upd.of_below (S := fun _ => False) hb) (fun _ h => h.elim)
set_option maxRecDepth 100000 in
set_option maxHeartbeats 4000000 in
theorem owns_any {w : World} {R D X L d e f : Nat} {x : List UInt8} {lb : Array Value} {Inv : World → List Tk → (Nat → Prop) → Prop} {F : Nat → Prop} {ts : List Tk} (hly : LyV R x.length f lb Inv) (hi : Inv w ts F) (hch : ChC w D X L d f (strOf x) lb) (ho : Off F D X L) (hR : R ≤ D) (hde : d ≤ e) (he : e ≤ x.length) (hx : x.length ≤ 65536) (hg : Goes x.length 0 ts) (ht : toldL ts = d) :
    Calls Try.prog 40 #[.int .i64 (e : Int), .pointer (some ⟨D, 0, none⟩), .pointer (some ⟨X, 0, none⟩), .pointer (some ⟨L, 0, none⟩)] w fun e' w' => e' = .returned (.tuple #[]) ∧ OwTo w D X L e f (strOf x) lb Inv (ts ++ ownsL x d e) F w' := by
  have HLY : Hid (LyV R x.length f lb Inv) := hly
  have eg := hly.en
  have HO : Hid (Off F D X L ∧ Inv w ts F ∧ ChC w D X L d f (strOf x) lb ∧ Goes x.length 0 ts ∧ toldL ts = d) := ⟨ho, hi, hch, hg, ht⟩
  clear hly hi hch ho hg ht
  go_enter Try.func40, Try.ntmps40
  go_wp2
  go_loopw [5] (fun v5 wr => ∃ d' ts' F', Inv wr ts' F' ∧ (∀ x, F' x → F x ∨ w.heap.size ≤ x) ∧ ChC wr D X L d' f (strOf x) lb ∧ Upd (fun x => F x ∨ x = D) w wr ∧ Goes x.length 0 ts' ∧ toldL ts' = d' ∧ d' ≤ e ∧ ts' ++ ownsL x d' e = ts ++ ownsL x d e) (fun _ wr => e - numAt wr D)
  case atStart => exact ⟨d, ts, F, HO.out.2.1, fun x hx => .inl hx, HO.out.2.2.1, Upd.refl _ _, HO.out.2.2.2.1, HO.out.2.2.2.2, hde, rfl⟩
  case round =>
    obtain ⟨d', ts', F', hi, hf, hch, hu, hg, ht, hd', htl⟩ := hrel
    obtain ⟨cD, cX, cL⟩ := hch.cells
    have HN : Hid (numAt wr D = d') := by show numAt wr D = d'; unfold numAt; rw [cD]; rfl
    by_cases hlt : d' < e
    · have kk : (d' : Int) < (e : Int) := by omega
      have hq := own_tok (x := x) hlt he
      have hqt := own_told (x := x) hlt he
      obtain ⟨m, hm⟩ : ∃ m, min e (d' + 128) = m := ⟨_, rfl⟩
      obtain ⟨u, hu'⟩ : ∃ u, (x.drop d').take (m - d') = u := ⟨_, rfl⟩
      rw [hm, hu'] at hq hqt
      have hsl : ∀ W, (Instr.sliceAt 9 (.string (strOf x)) (some (.int .i64 (d' : Int))) (some (.int .i64 (m : Int))) none).run Try.prog W = .ok (.string (strOf u)) W := fun W => by
        rw [← hu']; exact sl_str x d' m (by omega) (by omega) W
      have HTO : Hid (∀ W, Calls Try.prog 32 #[.agg #[.int .i64 0, .int .i64 0, .string (strOf u)]] W fun e w' => e = .returned (.int .i64 ((Tk.told ⟨0, 0, u⟩ : Nat) : Int)) ∧ Below W.heap.size W w') := fun W => told_any ⟨0, 0, u⟩ (by omega) W
      obtain ⟨to, hto⟩ : ∃ n, Tk.told ⟨0, 0, u⟩ = n := ⟨_, rfl⟩
      rw [hto] at HTO hqt
      have wdt : IntKind.i64.wrap ((d' : Int) + (to : Int)) = (m : Int) := by rw [IntKind.wrap_i64]; omega
      have wd : IntKind.i64.wrap ((d' : Int) + 128) = (d' : Int) + 128 := by rw [IntKind.wrap_i64]; omega
      have hg2 : Goes x.length 0 (ts' ++ [⟨0, 0, u⟩]) := by
        rw [Goes.app]
        exact ⟨hg, .inl hq.1, by simp, by rw [hto]; omega, trivial⟩
      have HX : Hid (Inv wr ts' F' ∧ (∀ x, F' x → F x ∨ w.heap.size ≤ x) ∧ ChC wr D X L d' f (strOf x) lb ∧ Upd (fun x => F x ∨ x = D) w wr ∧ Goes x.length 0 (ts' ++ [⟨0, 0, u⟩]) ∧ toldL (ts' ++ [⟨0, 0, u⟩]) = m ∧ m ≤ e ∧ d' < m ∧ (ts' ++ [⟨0, 0, u⟩]) ++ ownsL x m e = ts ++ ownsL x d e) := by
        refine ⟨hi, hf, hch, hu, hg2, by rw [toldL_app, toldL_one, hto, ht]; omega, by omega, by omega, ?_⟩
        rw [← htl, ownsL_on hlt, hm, hu', List.append_assoc]
        rfl
      obtain ⟨C, hC⟩ : ∃ C, wr.heap.size = C := ⟨_, rfl⟩
      obtain ⟨T, hT⟩ : ∃ T, strOf x = T := ⟨_, rfl⟩
      obtain ⟨U, hU⟩ : ∃ U, strOf u = U := ⟨_, rfl⟩
      rw [hT] at cX hsl HX
      rw [hU] at hsl HTO
      have HTU : Hid (strOf u = U ∧ strOf x = T) := ⟨hU, hT⟩
      obtain ⟨W1, hW1⟩ : ∃ W, wr.alloc (.cells #[.int .i64 0, .int .i64 0, .string U] 51) = W := ⟨_, rfl⟩
      have hbW : Below wr.heap.size wr W1 := by rw [← hW1]; exact (Below.refl _ wr).alloc (Nat.le_refl _) _
      have hr1 : W1.heap[C]? = some (.cells #[.int .i64 0, .int .i64 0, .string U] 51 (0, 0)) := by rw [← hW1, ← hC]; exact heap_alloc_new wr _
      have z0 : W1.cell? ⟨C, 0, none⟩ = some (.int .i64 0) := by rw [cell_of_row _ _ _ _ _ _ hr1]; rfl
      have z1 : W1.cell? ⟨C, 1, none⟩ = some (.int .i64 0) := by rw [cell_of_row _ _ _ _ _ _ hr1]; rfl
      have z2 : W1.cell? ⟨C, 2, none⟩ = some (.string U) := by rw [cell_of_row _ _ _ _ _ _ hr1]; rfl
      have zL : W1.cell? ⟨L, 0, none⟩ = some (.func (.func f) #[] lb) := keepc hbW cL
      have hi1 := HLY.out.later hi hbW
      have HGO := HLY.out.go W1 ts' ⟨0, 0, u⟩ F' hi1 hg2
      rw [hU] at HGO
      have HGO : Hid (Calls Try.prog f (#[.agg #[.int .i64 0, .int .i64 0, .string U]] ++ lb) W1 fun e w' => e = .returned (.tuple #[]) ∧ ∃ F2, Inv w' (ts' ++ [⟨0, 0, u⟩]) F2 ∧ (∀ x, F2 x → F' x ∨ W1.heap.size ≤ x) ∧ Upd F' W1 w') := HGO
      have HW1 : Hid (Below wr.heap.size wr W1 ∧ W1.heap[C]? = some (.cells #[.int .i64 0, .int .i64 0, .string U] 51 (0, 0)) ∧ wr.heap.size = C) := ⟨hbW, hr1, hC⟩
      have kmin : (e ≤ d' + 128 ∧ m = e) ∨ (d' + 128 < e ∧ m = d' + 128) := by omega
      clear hi hf hch hu hg ht hd' htl hq hqt hm hu' hto hg2 hT hU hbW hr1 hi1
      have HKM : Hid (d' + (m - d') = m) := by show _ = _; have := HX.out.2.2.2.2.2.2.2.1; omega
      rcases kmin with ⟨km, rfl⟩ | ⟨km, km4⟩
      · have km1 : ¬ (d' : Int) + 128 < (m : Int) := by omega
        have km2 : (m : Int) ≤ (d' : Int) + 128 := by omega
        go_wp2_with fail
        refine HGO.out.mono ?_
        rintro e9 V3 ⟨rfl, F3, hi3, hf3, hu3⟩
        clear hW1 hC
        obtain ⟨qD, qX, qL, qC, qF, q3⟩ := own_kept HO.out.1 HX.out.1 HLY.out HX.out.2.1 HX.out.2.2.1 HO.out.2.2.1 HW1.out.1 hf3 hu3 (by rw [HW1.out.2.2]; exact Nat.le_refl _) HW1.out.2.1 HX.out.2.2.2.1.size
        have xD : V3.cell? ⟨D, 0, none⟩ = some (.int .i64 (d' : Int)) := by rw [cell_of_row _ _ _ _ _ _ qD]; rfl
        have fD := frozen_of_row V3 D 0 _ _ qD
        have x0 : V3.cell? ⟨C, 0, none⟩ = some (.int .i64 0) := by rw [cell_of_row _ _ _ _ _ _ qC]; rfl
        have x1 : V3.cell? ⟨C, 1, none⟩ = some (.int .i64 0) := by rw [cell_of_row _ _ _ _ _ _ qC]; rfl
        have x2 : V3.cell? ⟨C, 2, none⟩ = some (.string U) := by rw [cell_of_row _ _ _ _ _ _ qC]; rfl
        have HFIN : Hid (∀ V4, Below V3.heap.size V3 V4 → Inv (V4.setCell ⟨D, 0, none⟩ (.int .i64 (m : Int))) (ts' ++ [⟨0, 0, u⟩]) F3 ∧ (∀ x, F3 x → F x ∨ w.heap.size ≤ x) ∧ ChC (V4.setCell ⟨D, 0, none⟩ (.int .i64 (m : Int))) D X L m f T lb ∧ Upd (fun x => F x ∨ x = D) w (V4.setCell ⟨D, 0, none⟩ (.int .i64 (m : Int)))) := fun V4 hV4 =>
          own_fin HO.out.1 HLY.out hi3 hR q3 qF ⟨qD, qX, qL⟩ (own_upd HX.out.2.2.2.1 HW1.out.1 HX.out.2.1 hu3) hV4 m
        clear hi3 hf3 hu3 qD qX qL qC qF q3 z0 z1 z2 zL cD cX cL HGO
        go_wp2
        go_region_with (go_at_call 32; refine (HTO.out _).mono ?_; rintro e8 V4 ⟨rfl, hV4⟩; obtain ⟨yD, yF⟩ := cell_kept (undrewN hV4) xD fD)
        all_goals
          have HF4 := HFIN.out V4 (undrewN hV4)
          have HF4 : Hid _ := HF4
          clear hV4 yD yF xD fD x0 x1 x2
          go_wp2
          refine ⟨⟨m, _, F3, HF4.out.1, HF4.out.2.1, by rw [HTU.out.2]; exact HF4.out.2.2.1, HF4.out.2.2.2, HX.out.2.2.2.2.1, HX.out.2.2.2.2.2.1, HX.out.2.2.2.2.2.2.1, HX.out.2.2.2.2.2.2.2.2⟩, ?_⟩
          rw [HN.out, numAt_ch HF4.out.2.2.1]
          have := HX.out.2.2.2.2.2.2.2.1
          omega
      · have wd2 : IntKind.i64.wrap ((d' : Int) + 128) = (m : Int) := by rw [IntKind.wrap_i64]; omega
        have km1 : (m : Int) < (e : Int) := by omega
        have km2 : ¬ (e : Int) < (m : Int) := by omega
        have km3 : ¬ (e : Int) ≤ (m : Int) := by omega
        clear wd km km4
        go_wp2_with fail
        refine HGO.out.mono ?_
        rintro e9 V3 ⟨rfl, F3, hi3, hf3, hu3⟩
        clear hW1 hC
        obtain ⟨qD, qX, qL, qC, qF, q3⟩ := own_kept HO.out.1 HX.out.1 HLY.out HX.out.2.1 HX.out.2.2.1 HO.out.2.2.1 HW1.out.1 hf3 hu3 (by rw [HW1.out.2.2]; exact Nat.le_refl _) HW1.out.2.1 HX.out.2.2.2.1.size
        have xD : V3.cell? ⟨D, 0, none⟩ = some (.int .i64 (d' : Int)) := by rw [cell_of_row _ _ _ _ _ _ qD]; rfl
        have fD := frozen_of_row V3 D 0 _ _ qD
        have x0 : V3.cell? ⟨C, 0, none⟩ = some (.int .i64 0) := by rw [cell_of_row _ _ _ _ _ _ qC]; rfl
        have x1 : V3.cell? ⟨C, 1, none⟩ = some (.int .i64 0) := by rw [cell_of_row _ _ _ _ _ _ qC]; rfl
        have x2 : V3.cell? ⟨C, 2, none⟩ = some (.string U) := by rw [cell_of_row _ _ _ _ _ _ qC]; rfl
        have HFIN : Hid (∀ V4, Below V3.heap.size V3 V4 → Inv (V4.setCell ⟨D, 0, none⟩ (.int .i64 (m : Int))) (ts' ++ [⟨0, 0, u⟩]) F3 ∧ (∀ x, F3 x → F x ∨ w.heap.size ≤ x) ∧ ChC (V4.setCell ⟨D, 0, none⟩ (.int .i64 (m : Int))) D X L m f T lb ∧ Upd (fun x => F x ∨ x = D) w (V4.setCell ⟨D, 0, none⟩ (.int .i64 (m : Int)))) := fun V4 hV4 =>
          own_fin HO.out.1 HLY.out hi3 hR q3 qF ⟨qD, qX, qL⟩ (own_upd HX.out.2.2.2.1 HW1.out.1 HX.out.2.1 hu3) hV4 m
        clear hi3 hf3 hu3 qD qX qL qC qF q3 z0 z1 z2 zL cD cX cL HGO
        go_wp2
        go_region_with (go_at_call 32; refine (HTO.out _).mono ?_; rintro e8 V4 ⟨rfl, hV4⟩; obtain ⟨yD, yF⟩ := cell_kept (undrewN hV4) xD fD)
        all_goals
          have HF4 := HFIN.out V4 (undrewN hV4)
          have HF4 : Hid _ := HF4
          clear hV4 yD yF xD fD x0 x1 x2
          go_wp2
          refine ⟨⟨m, _, F3, HF4.out.1, HF4.out.2.1, by rw [HTU.out.2]; exact HF4.out.2.2.1, HF4.out.2.2.2, HX.out.2.2.2.2.1, HX.out.2.2.2.2.2.1, HX.out.2.2.2.2.2.2.1, HX.out.2.2.2.2.2.2.2.2⟩, ?_⟩
          rw [HN.out, numAt_ch HF4.out.2.2.1]
          have := HX.out.2.2.2.2.2.2.2.1
          omega
    · obtain rfl : e = d' := by omega
      have kk : ¬ (e : Int) < (e : Int) := by omega
      have HE : Hid (OwTo w D X L e f (strOf x) lb Inv (ts ++ ownsL x d e) F wr) := ⟨F', by rw [← htl, ownsL_end (by omega), List.append_nil]; exact hi, hf, hch, hu⟩
      clear hi hf hch hu hg ht htl
      go_wp2
      refine bodyPost_end (v := .tuple #[]) ?_ rfl ⟨rfl, HE.out⟩
      simp [results, go_sem]
end Go.Proofs.Ytekbmdpokghmmaa
