/- Walks over the document's number and entry. -/
import Derived.Test.YtkhidkilkbmpoaaDoorRN
namespace Go.Proofs.YtkhidkilkbmpoaaDoor
open Go.RowKit
def KD62 : Nat := 4611686018427387904
set_option maxRecDepth 100000 in
set_option maxHeartbeats 1000000 in
theorem rnum13 (s : ByteArray) (p : Int) (n : Nat) (q : Int) (er : Nat) (hr : getAt s.data.toList p = (n, q, er)) (w : World) (hp : inP s.data.toList p) : Calls Tryd.prog 43 #[.string s, .int .i64 p] w fun e w' => e = .returned (.tuple #[.int .i64 ((min n KD62 : Nat) : Int), .int .i64 q, .bool (decide (er = 0))]) ∧ w' = w := by
  have HG : Calls Tryd.prog 60 #[.string s, .int .i64 p] w fun e w' => e = .returned (.tuple #[.int .u64 (n : Int), .int .i64 q, .int .i64 (er : Int)]) ∧ w' = w := rget3 s.data.toList p n q er hr w hp.2.2 ⟨hp.1, hp.2.1⟩
  obtain ⟨fl, hfl⟩ : ∃ fl, decide (er = 0) = fl := ⟨_, rfl⟩
  have hfb : ((er : Int) == 0) = fl := by rw [← hfl]; by_cases h : er = 0 <;> simp [h]
  rw [hfl]
  clear hfl
  by_cases h : KD62 < n
  · have hm : min n KD62 = KD62 := by omega
    rw [hm]
    unfold KD62 at h ⊢
    have k : (4611686018427387904 : Int) < (n : Int) := by omega
    clear hm hr
    go_enter Tryd.func43, Tryd.ntmps43
    go_wp2_with fail
    refine HG.mono ?_
    rintro e V ⟨rfl, hV⟩
    subst V
    go_wp2
    refine bodyPost_ret (v := .tuple #[.int .i64 ((4611686018427387904 : Nat) : Int), .int .i64 q, .bool fl]) ?_ rfl ⟨rfl, rfl⟩
    simp [results, go_sem]
  · have hm : min n KD62 = n := by omega
    rw [hm]
    unfold KD62 at h
    have k : ¬ (4611686018427387904 : Int) < (n : Int) := by omega
    have wn : IntKind.i64.wrap (n : Int) = (n : Int) := by rw [IntKind.wrap_i64]; omega
    clear hm hr
    go_enter Tryd.func43, Tryd.ntmps43
    go_wp2_with fail
    refine HG.mono ?_
    rintro e V ⟨rfl, hV⟩
    subst V
    go_wp2
    refine bodyPost_ret (v := .tuple #[.int .i64 (n : Int), .int .i64 q, .bool fl]) ?_ rfl ⟨rfl, rfl⟩
    simp [results, go_sem]
theorem getAt_in2 {bs : List UInt8} {p : Int} (h : bs.length ≤ 9223372036854775807) {n : Nat} {q : Int} {e : Nat} (hg : getAt bs p = (n, q, e)) : inP bs q := by
  have := getAt_plQ bs p
  rw [hg] at this
  exact ⟨by simp only at this; omega, by simp only at this; omega, h⟩
theorem textAt_in2 {bs : List UInt8} {p m : Int} (h : bs.length ≤ 9223372036854775807) {t : List UInt8} {q : Int} {e : Nat} (hg : textAt bs p m = (t, q, e)) : inP bs q := by
  have := textAt_pl bs p m
  rw [hg] at this
  exact ⟨by simp only at this; omega, by simp only at this; omega, h⟩
theorem res_3E {fn : Func} {p q r : Tmp} (h : fn.results = #[.cell p 36, .tmp q, .tmp r]) (tmps : Array Value) (w : World) (g : Nat) (cs : Array Value) (hp : tmps.getD p undef = .pointer (some ⟨g, 0, none⟩)) (hg : w.heap[g]? = some (.cells cs 36 (0, 0))) (hi : (Tryd.prog.info? 36).map (·.size) = some cs.size) :
    (results fn tmps).run Tryd.prog w = .ok (.tuple #[.agg cs, tmps.getD q undef, tmps.getD r undef]) w := by
  have hp' : tmps[p]?.getD undef = .pointer (some ⟨g, 0, none⟩) := by simpa using hp
  have hl := run_loadVar_row (P := Tryd.prog) w g 36 36 cs (0, 0) _ hg Tryd.underlying36 rfl hi
  simp [results, h, hp', asAddr, hl]
theorem below5s {B rb : Nat} {w V : World} (h : Below B w V) (hr : B ≤ rb) (x0 x1 x2 x3 x4 : Value) : Below B w (((((V.setCell ⟨rb, 0, none⟩ x0).setCell ⟨rb, 1, none⟩ x1).setCell ⟨rb, 2, none⟩ x2).setCell ⟨rb, 3, none⟩ x3).setCell ⟨rb, 4, none⟩ x4) := ((((h.setCell hr _).setCell hr _).setCell hr _).setCell hr _).setCell hr _
/-- What entry tells. -/
def EtTo (w : World) (r : Option (En × Int)) (e : Ending) (w' : World) : Prop := match r with
  | none => e = .returned (.tuple #[.agg #[.int .i64 0, .int .i64 0, .int .i64 0, .string ⟨#[]⟩, .int .i64 0], .int .i64 0, .bool false]) ∧ Below w.heap.size w w'
  | some (c, q) => e = .returned (.tuple #[.agg #[.int .i64 c.seq, .int .i64 c.time, .int .i64 c.kind, .string c.path, .int .i64 c.errno], .int .i64 q, .bool true]) ∧ Below w.heap.size w w'
/-- Between two things that are read. -/
def EntR (w : World) (zb nb t5 : Nat) (pos : Nat → Int) (str : Nat → ByteArray) (arr : Nat → Array Value) (ok : Nat → Prop) (i : Nat) (vat vp : Value) (wr : World) : Prop := vat = .int .i64 (pos i) ∧ vp = .string (str i) ∧ wr.heap[nb]? = some (.cells (arr i) t5 (0, 0)) ∧ wr.heap[zb]? = some (.cells #[.int .i64 0, .int .i64 0, .int .i64 0, .string ⟨#[]⟩, .int .i64 0] 36 (0, 0)) ∧ ok i ∧ Below w.heap.size w wr
set_option maxRecDepth 100000 in
set_option maxHeartbeats 4000000 in
theorem rent_any (s : ByteArray) (bs : List UInt8) (hs : s.data.toList = bs) (p : Int) (hp : inP bs p) (w : World) : Calls Tryd.prog 44 #[.string s, .int .i64 p] w fun e w' => EtTo w (entAt KD62 bs p) e w' := by
  have hlb := hp.2.2
  obtain ⟨n1, p1, f1, h1⟩ : ∃ n q e, getAt bs p = (n, q, e) := ⟨_, _, _, rfl⟩
  have ip1 := getAt_in2 hlb h1
  obtain ⟨n2, p2, f2, h2⟩ : ∃ n q e, getAt bs p1 = (n, q, e) := ⟨_, _, _, rfl⟩
  have ip2 := getAt_in2 hlb h2
  obtain ⟨n3, p3, f3, h3⟩ : ∃ n q e, getAt bs p2 = (n, q, e) := ⟨_, _, _, rfl⟩
  have ip3 := getAt_in2 hlb h3
  obtain ⟨t, p4, f4, h4⟩ : ∃ n q e, textAt bs p3 32 = (n, q, e) := ⟨_, _, _, rfl⟩
  have ip4 := textAt_in2 hlb h4
  obtain ⟨n5, p5, f5, h5⟩ : ∃ n q e, getAt bs p4 = (n, q, e) := ⟨_, _, _, rfl⟩
  obtain ⟨m1, hm1⟩ : ∃ m, min n1 KD62 = m := ⟨_, rfl⟩
  obtain ⟨m2, hm2⟩ : ∃ m, min n2 KD62 = m := ⟨_, rfl⟩
  obtain ⟨m3, hm3⟩ : ∃ m, min n3 KD62 = m := ⟨_, rfl⟩
  obtain ⟨m5, hm5⟩ : ∃ m, min n5 KD62 = m := ⟨_, rfl⟩
  obtain ⟨X, hX⟩ : ∃ X, baOf t = X := ⟨_, rfl⟩
  have HNU : Hid (∀ (p : Int) (n : Nat) (q : Int) (er : Nat) (W : World), getAt bs p = (n, q, er) → inP bs p → Calls Tryd.prog 43 #[.string s, .int .i64 p] W fun e w' => e = .returned (.tuple #[.int .i64 ((min n KD62 : Nat) : Int), .int .i64 q, .bool (decide (er = 0))]) ∧ w' = W) := fun p n q er W hg hi => rnum13 s p n q er (by rw [hs]; exact hg) W (by rw [hs]; exact hi)
  have HTX : Hid (∀ (p : Int) (t : List UInt8) (q : Int) (er : Nat) (W : World), textAt bs p 32 = (t, q, er) → inP bs p → Calls Tryd.prog 42 #[.string s, .int .i64 p, .int .i64 32] W fun e w' => e = .returned (.tuple #[.string (baOf t), .int .i64 q, .int .i64 (er : Int)]) ∧ w' = W) := fun p t q er W hg hi => by
    have h9 := rgtext_any bs p 32 t q er hg W hlb ⟨hi.1, hi.2.1⟩ (by omega)
    rw [show strOf bs = s by rw [← hs]; rfl] at h9
    exact h9
  obtain ⟨zb, hzb⟩ : ∃ zb, w.heap.size = zb := ⟨_, rfl⟩
  obtain ⟨V1, hV1, r1, hb1⟩ := box_en (w := w) 0 0 0 ⟨#[]⟩ 0
  obtain ⟨nb, hnb⟩ : ∃ nb, V1.heap.size = nb := ⟨_, rfl⟩
  have hq1 : zb + 1 = nb := by rw [← hnb, ← hV1, ← hzb]; simp
  rw [hzb] at r1
  obtain ⟨V2, hV2⟩ : ∃ x, V1.alloc (.cells #[.int .i64 0, .int .i64 0, .int .i64 0, .int .i64 0, .int .i64 0] 97) = x := ⟨_, rfl⟩
  have r2 : V2.heap[nb]? = some (.cells #[.int .i64 0, .int .i64 0, .int .i64 0, .int .i64 0, .int .i64 0] 97 (0, 0)) := by rw [← hV2, ← hnb]; exact heap_alloc_new _ _
  have hb2 : Below V1.heap.size V1 V2 := by rw [← hV2]; exact (Below.refl _ _).alloc (Nat.le_refl _) _
  have HZB : Hid (w.heap.size = zb) := hzb
  have HNB : Hid (zb + 1 = nb) := hq1
  have HXX : Hid (baOf t = X) := hX
  have HMM : Hid (min n1 KD62 = m1 ∧ min n2 KD62 = m2 ∧ min n3 KD62 = m3 ∧ min n5 KD62 = m5) := ⟨hm1, hm2, hm3, hm5⟩
  have HP : Hid (getAt bs p = (n1, p1, f1) ∧ getAt bs p1 = (n2, p2, f2) ∧ getAt bs p2 = (n3, p3, f3) ∧ textAt bs p3 32 = (t, p4, f4) ∧ getAt bs p4 = (n5, p5, f5) ∧ inP bs p ∧ inP bs p1 ∧ inP bs p2 ∧ inP bs p3 ∧ inP bs p4) := ⟨h1, h2, h3, h4, h5, hp, ip1, ip2, ip3, ip4⟩
  have H2 : Hid (EntR w zb nb 97 (fun i => match i with | 0 => p | 1 => p1 | 2 => p2 | 3 => p3 | 4 => p4 | _ => p5) (fun i => match i with | 0 => ⟨#[]⟩ | 1 => ⟨#[]⟩ | 2 => ⟨#[]⟩ | 3 => ⟨#[]⟩ | _ => X) (fun i => match i with | 0 => #[.int .i64 0, .int .i64 0, .int .i64 0, .int .i64 0, .int .i64 0] | 1 => #[.int .i64 (m1 : Int), .int .i64 0, .int .i64 0, .int .i64 0, .int .i64 0] | 2 => #[.int .i64 (m1 : Int), .int .i64 (m2 : Int), .int .i64 0, .int .i64 0, .int .i64 0] | 3 => #[.int .i64 (m1 : Int), .int .i64 (m2 : Int), .int .i64 (m3 : Int), .int .i64 0, .int .i64 0] | 4 => #[.int .i64 (m1 : Int), .int .i64 (m2 : Int), .int .i64 (m3 : Int), .int .i64 0, .int .i64 0] | _ => #[.int .i64 (m1 : Int), .int .i64 (m2 : Int), .int .i64 (m3 : Int), .int .i64 0, .int .i64 (m5 : Int)]) (fun i => match i with | 0 => True | 1 => f1 = 0 | 2 => f1 = 0 ∧ f2 = 0 | 3 => f1 = 0 ∧ f2 = 0 ∧ f3 = 0 | 4 => f1 = 0 ∧ f2 = 0 ∧ f3 = 0 ∧ f4 = 0 | _ => f1 = 0 ∧ f2 = 0 ∧ f3 = 0 ∧ f4 = 0 ∧ f5 = 0) 0 (.int .i64 p) (.string ⟨#[]⟩) V2) := ⟨rfl, rfl, r2, (hb2.block zb (by omega)).trans r1, trivial, hb1.trans (hb2.mono hb1.size)⟩
  clear hp hlb h1 h2 h3 h4 h5 ip1 ip2 ip3 ip4 hm1 hm2 hm3 hm5 hX r1 r2 hb1 hb2 hs hq1
  go_enter Tryd.func44, Tryd.ntmps44
  go_wp2
  go_loopw [1, 8, 9] (fun vat vp vi wr => ∃ i : Nat, i ≤ 5 ∧ vi = .int .i64 i ∧ EntR w zb nb 97 (fun i => match i with | 0 => p | 1 => p1 | 2 => p2 | 3 => p3 | 4 => p4 | _ => p5) (fun i => match i with | 0 => ⟨#[]⟩ | 1 => ⟨#[]⟩ | 2 => ⟨#[]⟩ | 3 => ⟨#[]⟩ | _ => X) (fun i => match i with | 0 => #[.int .i64 0, .int .i64 0, .int .i64 0, .int .i64 0, .int .i64 0] | 1 => #[.int .i64 (m1 : Int), .int .i64 0, .int .i64 0, .int .i64 0, .int .i64 0] | 2 => #[.int .i64 (m1 : Int), .int .i64 (m2 : Int), .int .i64 0, .int .i64 0, .int .i64 0] | 3 => #[.int .i64 (m1 : Int), .int .i64 (m2 : Int), .int .i64 (m3 : Int), .int .i64 0, .int .i64 0] | 4 => #[.int .i64 (m1 : Int), .int .i64 (m2 : Int), .int .i64 (m3 : Int), .int .i64 0, .int .i64 0] | _ => #[.int .i64 (m1 : Int), .int .i64 (m2 : Int), .int .i64 (m3 : Int), .int .i64 0, .int .i64 (m5 : Int)]) (fun i => match i with | 0 => True | 1 => f1 = 0 | 2 => f1 = 0 ∧ f2 = 0 | 3 => f1 = 0 ∧ f2 = 0 ∧ f3 = 0 | 4 => f1 = 0 ∧ f2 = 0 ∧ f3 = 0 ∧ f4 = 0 | _ => f1 = 0 ∧ f2 = 0 ∧ f3 = 0 ∧ f4 = 0 ∧ f5 = 0) i vat vp wr) (fun _ _ vi _ => 5 - (intOf vi).toNat)
  case atStart => exact ⟨0, by omega, rfl, H2.out⟩
  case round =>
  obtain ⟨i, hi, rfl, hst⟩ := hrel
  have hcs : i = 0 ∨ i = 1 ∨ i = 2 ∨ i = 3 ∨ i = 4 ∨ i = 5 := by omega
  rcases hcs with rfl | rfl | rfl | rfl | rfl | rfl
  · obtain ⟨hat, hsp, hn, hz, hok, hbw⟩ := hst
    replace hat : _ = Value.int .i64 p := hat
    replace hsp : _ = Value.string ⟨#[]⟩ := hsp
    subst hat hsp
    replace hn : wr.heap[nb]? = some (.cells #[.int .i64 0, .int .i64 0, .int .i64 0, .int .i64 0, .int .i64 0] 97 (0, 0)) := hn
    replace hok : True := hok
    have HC := HNU.out p n1 p1 f1 wr HP.out.1 HP.out.2.2.2.2.2.1
    by_cases x : f1 = 0
    · skip
      rw [show decide (f1 = 0) = true from decide_eq_true x, HMM.out.1] at HC
      obtain ⟨k0, k1, k2, k3, k4, kz⟩ := row5 hn
      have kf := kz 0
      obtain ⟨W8, hW8⟩ : ∃ x, wr.setCell ⟨nb, 0, none⟩ (.int .i64 (m1 : Int)) = x := ⟨_, rfl⟩
      have HE : Hid (EntR w zb nb 97 (fun i => match i with | 0 => p | 1 => p1 | 2 => p2 | 3 => p3 | 4 => p4 | _ => p5) (fun i => match i with | 0 => ⟨#[]⟩ | 1 => ⟨#[]⟩ | 2 => ⟨#[]⟩ | 3 => ⟨#[]⟩ | _ => X) (fun i => match i with | 0 => #[.int .i64 0, .int .i64 0, .int .i64 0, .int .i64 0, .int .i64 0] | 1 => #[.int .i64 (m1 : Int), .int .i64 0, .int .i64 0, .int .i64 0, .int .i64 0] | 2 => #[.int .i64 (m1 : Int), .int .i64 (m2 : Int), .int .i64 0, .int .i64 0, .int .i64 0] | 3 => #[.int .i64 (m1 : Int), .int .i64 (m2 : Int), .int .i64 (m3 : Int), .int .i64 0, .int .i64 0] | 4 => #[.int .i64 (m1 : Int), .int .i64 (m2 : Int), .int .i64 (m3 : Int), .int .i64 0, .int .i64 0] | _ => #[.int .i64 (m1 : Int), .int .i64 (m2 : Int), .int .i64 (m3 : Int), .int .i64 0, .int .i64 (m5 : Int)]) (fun i => match i with | 0 => True | 1 => f1 = 0 | 2 => f1 = 0 ∧ f2 = 0 | 3 => f1 = 0 ∧ f2 = 0 ∧ f3 = 0 | 4 => f1 = 0 ∧ f2 = 0 ∧ f3 = 0 ∧ f4 = 0 | _ => f1 = 0 ∧ f2 = 0 ∧ f3 = 0 ∧ f4 = 0 ∧ f5 = 0) 1 (.int .i64 p1) (.string ⟨#[]⟩) W8) := by
        refine ⟨rfl, rfl, ?_, ?_, x, ?_⟩
        · rw [← hW8, heap_setCell_same _ _ _ _ _ _ hn]; rfl
        · rw [← hW8, heap_setCell_other _ _ _ _ (by show zb ≠ nb; have := HNB.out; omega)]; exact hz
        · rw [← hW8]; exact hbw.setCell (show w.heap.size ≤ nb by have := HNB.out; have := HZB.out; omega) _
      clear hn hz hbw kz x hok
      go_wp2_with fail
      refine HC.mono ?_
      rintro e V9 ⟨rfl, hV9⟩
      subst V9
      clear HC
      go_wp2
      exact ⟨⟨1, by omega, by go_num, HE.out⟩, by simp [intOf]⟩
    · have hno : entAt KD62 bs p = none := entAt_1 (by rw [HP.out.1]; exact x)
      rw [show decide (f1 = 0) = false from decide_eq_false x] at HC
      obtain ⟨x0, x1, x2, x3, x4, fz⟩ := row5 hz
      have g0 := fz 0
      have g1 := fz 1
      have g2 := fz 2
      have g3 := fz 3
      have g4 := fz 4
      obtain ⟨W5, hW5⟩ : ∃ W5, ((((wr.setCell ⟨zb, 0, none⟩ (.int .i64 0)).setCell ⟨zb, 1, none⟩ (.int .i64 0)).setCell ⟨zb, 2, none⟩ (.int .i64 0)).setCell ⟨zb, 3, none⟩ (.string ⟨#[]⟩)).setCell ⟨zb, 4, none⟩ (.int .i64 0) = W5 := ⟨_, rfl⟩
      have HE : Hid (EtTo w (entAt KD62 bs p) (.returned (.tuple #[.agg #[.int .i64 0, .int .i64 0, .int .i64 0, .string ⟨#[]⟩, .int .i64 0], .int .i64 0, .bool false])) W5 ∧ W5.heap[zb]? = some (.cells #[.int .i64 0, .int .i64 0, .int .i64 0, .string ⟨#[]⟩, .int .i64 0] 36 (0, 0))) := by
        refine ⟨?_, by rw [← hW5]; exact set5 hz _ _ _ _ _⟩
        rw [hno]
        refine ⟨rfl, ?_⟩
        rw [← hW5]
        exact below5s hbw (Nat.le_of_eq HZB.out) _ _ _ _ _
      clear hz hbw hn hno fz x hok
      go_wp2_with fail
      refine HC.mono ?_
      rintro e V9 ⟨rfl, hV9⟩
      subst V9
      clear HC
      go_wp2
      refine bodyPost_ret (v := .tuple #[.agg #[.int .i64 0, .int .i64 0, .int .i64 0, .string ⟨#[]⟩, .int .i64 0], .int .i64 0, .bool false]) ?_ rfl HE.out.1
      exact res_3E (fn := Tryd.f44) (p := 4) (q := 5) (r := 6) (by rfl) _ _ zb _ (by rfl) HE.out.2 infoE5
  · obtain ⟨hat, hsp, hn, hz, hok, hbw⟩ := hst
    replace hat : _ = Value.int .i64 p1 := hat
    replace hsp : _ = Value.string ⟨#[]⟩ := hsp
    subst hat hsp
    replace hn : wr.heap[nb]? = some (.cells #[.int .i64 (m1 : Int), .int .i64 0, .int .i64 0, .int .i64 0, .int .i64 0] 97 (0, 0)) := hn
    replace hok : f1 = 0 := hok
    have w1 : getAt bs p = (n1, p1, 0) := by rw [HP.out.1, hok]
    have HC := HNU.out p1 n2 p2 f2 wr HP.out.2.1 HP.out.2.2.2.2.2.2.1
    by_cases x : f2 = 0
    · skip
      rw [show decide (f2 = 0) = true from decide_eq_true x, HMM.out.2.1] at HC
      obtain ⟨k0, k1, k2, k3, k4, kz⟩ := row5 hn
      have kf := kz 1
      obtain ⟨W8, hW8⟩ : ∃ x, wr.setCell ⟨nb, 1, none⟩ (.int .i64 (m2 : Int)) = x := ⟨_, rfl⟩
      have HE : Hid (EntR w zb nb 97 (fun i => match i with | 0 => p | 1 => p1 | 2 => p2 | 3 => p3 | 4 => p4 | _ => p5) (fun i => match i with | 0 => ⟨#[]⟩ | 1 => ⟨#[]⟩ | 2 => ⟨#[]⟩ | 3 => ⟨#[]⟩ | _ => X) (fun i => match i with | 0 => #[.int .i64 0, .int .i64 0, .int .i64 0, .int .i64 0, .int .i64 0] | 1 => #[.int .i64 (m1 : Int), .int .i64 0, .int .i64 0, .int .i64 0, .int .i64 0] | 2 => #[.int .i64 (m1 : Int), .int .i64 (m2 : Int), .int .i64 0, .int .i64 0, .int .i64 0] | 3 => #[.int .i64 (m1 : Int), .int .i64 (m2 : Int), .int .i64 (m3 : Int), .int .i64 0, .int .i64 0] | 4 => #[.int .i64 (m1 : Int), .int .i64 (m2 : Int), .int .i64 (m3 : Int), .int .i64 0, .int .i64 0] | _ => #[.int .i64 (m1 : Int), .int .i64 (m2 : Int), .int .i64 (m3 : Int), .int .i64 0, .int .i64 (m5 : Int)]) (fun i => match i with | 0 => True | 1 => f1 = 0 | 2 => f1 = 0 ∧ f2 = 0 | 3 => f1 = 0 ∧ f2 = 0 ∧ f3 = 0 | 4 => f1 = 0 ∧ f2 = 0 ∧ f3 = 0 ∧ f4 = 0 | _ => f1 = 0 ∧ f2 = 0 ∧ f3 = 0 ∧ f4 = 0 ∧ f5 = 0) 2 (.int .i64 p2) (.string ⟨#[]⟩) W8) := by
        refine ⟨rfl, rfl, ?_, ?_, ⟨hok, x⟩, ?_⟩
        · rw [← hW8, heap_setCell_same _ _ _ _ _ _ hn]; rfl
        · rw [← hW8, heap_setCell_other _ _ _ _ (by show zb ≠ nb; have := HNB.out; omega)]; exact hz
        · rw [← hW8]; exact hbw.setCell (show w.heap.size ≤ nb by have := HNB.out; have := HZB.out; omega) _
      clear hn hz hbw kz x hok w1
      go_wp2_with fail
      refine HC.mono ?_
      rintro e V9 ⟨rfl, hV9⟩
      subst V9
      clear HC
      go_wp2
      exact ⟨⟨2, by omega, by go_num, HE.out⟩, by simp [intOf]⟩
    · have hno : entAt KD62 bs p = none := entAt_2 w1 (by rw [HP.out.2.1]; exact x)
      rw [show decide (f2 = 0) = false from decide_eq_false x] at HC
      obtain ⟨x0, x1, x2, x3, x4, fz⟩ := row5 hz
      have g0 := fz 0
      have g1 := fz 1
      have g2 := fz 2
      have g3 := fz 3
      have g4 := fz 4
      obtain ⟨W5, hW5⟩ : ∃ W5, ((((wr.setCell ⟨zb, 0, none⟩ (.int .i64 0)).setCell ⟨zb, 1, none⟩ (.int .i64 0)).setCell ⟨zb, 2, none⟩ (.int .i64 0)).setCell ⟨zb, 3, none⟩ (.string ⟨#[]⟩)).setCell ⟨zb, 4, none⟩ (.int .i64 0) = W5 := ⟨_, rfl⟩
      have HE : Hid (EtTo w (entAt KD62 bs p) (.returned (.tuple #[.agg #[.int .i64 0, .int .i64 0, .int .i64 0, .string ⟨#[]⟩, .int .i64 0], .int .i64 0, .bool false])) W5 ∧ W5.heap[zb]? = some (.cells #[.int .i64 0, .int .i64 0, .int .i64 0, .string ⟨#[]⟩, .int .i64 0] 36 (0, 0))) := by
        refine ⟨?_, by rw [← hW5]; exact set5 hz _ _ _ _ _⟩
        rw [hno]
        refine ⟨rfl, ?_⟩
        rw [← hW5]
        exact below5s hbw (Nat.le_of_eq HZB.out) _ _ _ _ _
      clear hz hbw hn hno fz x hok w1
      go_wp2_with fail
      refine HC.mono ?_
      rintro e V9 ⟨rfl, hV9⟩
      subst V9
      clear HC
      go_wp2
      refine bodyPost_ret (v := .tuple #[.agg #[.int .i64 0, .int .i64 0, .int .i64 0, .string ⟨#[]⟩, .int .i64 0], .int .i64 0, .bool false]) ?_ rfl HE.out.1
      exact res_3E (fn := Tryd.f44) (p := 4) (q := 5) (r := 6) (by rfl) _ _ zb _ (by rfl) HE.out.2 infoE5
  · obtain ⟨hat, hsp, hn, hz, hok, hbw⟩ := hst
    replace hat : _ = Value.int .i64 p2 := hat
    replace hsp : _ = Value.string ⟨#[]⟩ := hsp
    subst hat hsp
    replace hn : wr.heap[nb]? = some (.cells #[.int .i64 (m1 : Int), .int .i64 (m2 : Int), .int .i64 0, .int .i64 0, .int .i64 0] 97 (0, 0)) := hn
    replace hok : f1 = 0 ∧ f2 = 0 := hok
    have w1 : getAt bs p = (n1, p1, 0) := by rw [HP.out.1, hok.1]
    have w2 : getAt bs p1 = (n2, p2, 0) := by rw [HP.out.2.1, hok.2]
    have HC := HNU.out p2 n3 p3 f3 wr HP.out.2.2.1 HP.out.2.2.2.2.2.2.2.1
    by_cases x : f3 = 0
    · skip
      rw [show decide (f3 = 0) = true from decide_eq_true x, HMM.out.2.2.1] at HC
      obtain ⟨k0, k1, k2, k3, k4, kz⟩ := row5 hn
      have kf := kz 2
      obtain ⟨W8, hW8⟩ : ∃ x, wr.setCell ⟨nb, 2, none⟩ (.int .i64 (m3 : Int)) = x := ⟨_, rfl⟩
      have HE : Hid (EntR w zb nb 97 (fun i => match i with | 0 => p | 1 => p1 | 2 => p2 | 3 => p3 | 4 => p4 | _ => p5) (fun i => match i with | 0 => ⟨#[]⟩ | 1 => ⟨#[]⟩ | 2 => ⟨#[]⟩ | 3 => ⟨#[]⟩ | _ => X) (fun i => match i with | 0 => #[.int .i64 0, .int .i64 0, .int .i64 0, .int .i64 0, .int .i64 0] | 1 => #[.int .i64 (m1 : Int), .int .i64 0, .int .i64 0, .int .i64 0, .int .i64 0] | 2 => #[.int .i64 (m1 : Int), .int .i64 (m2 : Int), .int .i64 0, .int .i64 0, .int .i64 0] | 3 => #[.int .i64 (m1 : Int), .int .i64 (m2 : Int), .int .i64 (m3 : Int), .int .i64 0, .int .i64 0] | 4 => #[.int .i64 (m1 : Int), .int .i64 (m2 : Int), .int .i64 (m3 : Int), .int .i64 0, .int .i64 0] | _ => #[.int .i64 (m1 : Int), .int .i64 (m2 : Int), .int .i64 (m3 : Int), .int .i64 0, .int .i64 (m5 : Int)]) (fun i => match i with | 0 => True | 1 => f1 = 0 | 2 => f1 = 0 ∧ f2 = 0 | 3 => f1 = 0 ∧ f2 = 0 ∧ f3 = 0 | 4 => f1 = 0 ∧ f2 = 0 ∧ f3 = 0 ∧ f4 = 0 | _ => f1 = 0 ∧ f2 = 0 ∧ f3 = 0 ∧ f4 = 0 ∧ f5 = 0) 3 (.int .i64 p3) (.string ⟨#[]⟩) W8) := by
        refine ⟨rfl, rfl, ?_, ?_, ⟨hok.1, hok.2, x⟩, ?_⟩
        · rw [← hW8, heap_setCell_same _ _ _ _ _ _ hn]; rfl
        · rw [← hW8, heap_setCell_other _ _ _ _ (by show zb ≠ nb; have := HNB.out; omega)]; exact hz
        · rw [← hW8]; exact hbw.setCell (show w.heap.size ≤ nb by have := HNB.out; have := HZB.out; omega) _
      clear hn hz hbw kz x hok w1 w2
      go_wp2_with fail
      refine HC.mono ?_
      rintro e V9 ⟨rfl, hV9⟩
      subst V9
      clear HC
      go_wp2
      exact ⟨⟨3, by omega, by go_num, HE.out⟩, by simp [intOf]⟩
    · have hno : entAt KD62 bs p = none := entAt_3 w1 w2 (by rw [HP.out.2.2.1]; exact x)
      rw [show decide (f3 = 0) = false from decide_eq_false x] at HC
      obtain ⟨x0, x1, x2, x3, x4, fz⟩ := row5 hz
      have g0 := fz 0
      have g1 := fz 1
      have g2 := fz 2
      have g3 := fz 3
      have g4 := fz 4
      obtain ⟨W5, hW5⟩ : ∃ W5, ((((wr.setCell ⟨zb, 0, none⟩ (.int .i64 0)).setCell ⟨zb, 1, none⟩ (.int .i64 0)).setCell ⟨zb, 2, none⟩ (.int .i64 0)).setCell ⟨zb, 3, none⟩ (.string ⟨#[]⟩)).setCell ⟨zb, 4, none⟩ (.int .i64 0) = W5 := ⟨_, rfl⟩
      have HE : Hid (EtTo w (entAt KD62 bs p) (.returned (.tuple #[.agg #[.int .i64 0, .int .i64 0, .int .i64 0, .string ⟨#[]⟩, .int .i64 0], .int .i64 0, .bool false])) W5 ∧ W5.heap[zb]? = some (.cells #[.int .i64 0, .int .i64 0, .int .i64 0, .string ⟨#[]⟩, .int .i64 0] 36 (0, 0))) := by
        refine ⟨?_, by rw [← hW5]; exact set5 hz _ _ _ _ _⟩
        rw [hno]
        refine ⟨rfl, ?_⟩
        rw [← hW5]
        exact below5s hbw (Nat.le_of_eq HZB.out) _ _ _ _ _
      clear hz hbw hn hno fz x hok w1 w2
      go_wp2_with fail
      refine HC.mono ?_
      rintro e V9 ⟨rfl, hV9⟩
      subst V9
      clear HC
      go_wp2
      refine bodyPost_ret (v := .tuple #[.agg #[.int .i64 0, .int .i64 0, .int .i64 0, .string ⟨#[]⟩, .int .i64 0], .int .i64 0, .bool false]) ?_ rfl HE.out.1
      exact res_3E (fn := Tryd.f44) (p := 4) (q := 5) (r := 6) (by rfl) _ _ zb _ (by rfl) HE.out.2 infoE5
  · obtain ⟨hat, hsp, hn, hz, hok, hbw⟩ := hst
    replace hat : _ = Value.int .i64 p3 := hat
    replace hsp : _ = Value.string ⟨#[]⟩ := hsp
    subst hat hsp
    replace hn : wr.heap[nb]? = some (.cells #[.int .i64 (m1 : Int), .int .i64 (m2 : Int), .int .i64 (m3 : Int), .int .i64 0, .int .i64 0] 97 (0, 0)) := hn
    replace hok : f1 = 0 ∧ f2 = 0 ∧ f3 = 0 := hok
    have w1 : getAt bs p = (n1, p1, 0) := by rw [HP.out.1, hok.1]
    have w2 : getAt bs p1 = (n2, p2, 0) := by rw [HP.out.2.1, hok.2.1]
    have w3 : getAt bs p2 = (n3, p3, 0) := by rw [HP.out.2.2.1, hok.2.2]
    have HC := HTX.out p3 t p4 f4 wr HP.out.2.2.2.1 HP.out.2.2.2.2.2.2.2.2.1
    rw [HXX.out] at HC
    by_cases x : f4 = 0
    · skip
      have HE : Hid (EntR w zb nb 97 (fun i => match i with | 0 => p | 1 => p1 | 2 => p2 | 3 => p3 | 4 => p4 | _ => p5) (fun i => match i with | 0 => ⟨#[]⟩ | 1 => ⟨#[]⟩ | 2 => ⟨#[]⟩ | 3 => ⟨#[]⟩ | _ => X) (fun i => match i with | 0 => #[.int .i64 0, .int .i64 0, .int .i64 0, .int .i64 0, .int .i64 0] | 1 => #[.int .i64 (m1 : Int), .int .i64 0, .int .i64 0, .int .i64 0, .int .i64 0] | 2 => #[.int .i64 (m1 : Int), .int .i64 (m2 : Int), .int .i64 0, .int .i64 0, .int .i64 0] | 3 => #[.int .i64 (m1 : Int), .int .i64 (m2 : Int), .int .i64 (m3 : Int), .int .i64 0, .int .i64 0] | 4 => #[.int .i64 (m1 : Int), .int .i64 (m2 : Int), .int .i64 (m3 : Int), .int .i64 0, .int .i64 0] | _ => #[.int .i64 (m1 : Int), .int .i64 (m2 : Int), .int .i64 (m3 : Int), .int .i64 0, .int .i64 (m5 : Int)]) (fun i => match i with | 0 => True | 1 => f1 = 0 | 2 => f1 = 0 ∧ f2 = 0 | 3 => f1 = 0 ∧ f2 = 0 ∧ f3 = 0 | 4 => f1 = 0 ∧ f2 = 0 ∧ f3 = 0 ∧ f4 = 0 | _ => f1 = 0 ∧ f2 = 0 ∧ f3 = 0 ∧ f4 = 0 ∧ f5 = 0) 4 (.int .i64 p4) (.string X) wr) := ⟨rfl, rfl, hn, hz, ⟨hok.1, hok.2.1, hok.2.2, x⟩, hbw⟩
      have bx : ((f4 : Int) == 0) = true := by simp [x]
      have mx : ((f4 : Int) != 0) = false := by simp [x]
      clear hn hz hbw x hok w1 w2 w3
      go_wp2_with fail
      refine HC.mono ?_
      rintro e V9 ⟨rfl, hV9⟩
      subst V9
      clear HC
      go_wp2
      exact ⟨⟨4, by omega, by go_num, HE.out⟩, by simp [intOf]⟩
    · have hno : entAt KD62 bs p = none := entAt_4 w1 w2 w3 (by rw [HP.out.2.2.2.1]; exact x)
      have kx : ¬ (f4 : Int) = 0 := by omega
      have bx : ((f4 : Int) == 0) = false := by simpa using kx
      have mx : ((f4 : Int) != 0) = true := by simpa using kx
      obtain ⟨x0, x1, x2, x3, x4, fz⟩ := row5 hz
      have g0 := fz 0
      have g1 := fz 1
      have g2 := fz 2
      have g3 := fz 3
      have g4 := fz 4
      obtain ⟨W5, hW5⟩ : ∃ W5, ((((wr.setCell ⟨zb, 0, none⟩ (.int .i64 0)).setCell ⟨zb, 1, none⟩ (.int .i64 0)).setCell ⟨zb, 2, none⟩ (.int .i64 0)).setCell ⟨zb, 3, none⟩ (.string ⟨#[]⟩)).setCell ⟨zb, 4, none⟩ (.int .i64 0) = W5 := ⟨_, rfl⟩
      have HE : Hid (EtTo w (entAt KD62 bs p) (.returned (.tuple #[.agg #[.int .i64 0, .int .i64 0, .int .i64 0, .string ⟨#[]⟩, .int .i64 0], .int .i64 0, .bool false])) W5 ∧ W5.heap[zb]? = some (.cells #[.int .i64 0, .int .i64 0, .int .i64 0, .string ⟨#[]⟩, .int .i64 0] 36 (0, 0))) := by
        refine ⟨?_, by rw [← hW5]; exact set5 hz _ _ _ _ _⟩
        rw [hno]
        refine ⟨rfl, ?_⟩
        rw [← hW5]
        exact below5s hbw (Nat.le_of_eq HZB.out) _ _ _ _ _
      clear hz hbw hn hno fz x hok w1 w2 w3
      go_wp2_with fail
      refine HC.mono ?_
      rintro e V9 ⟨rfl, hV9⟩
      subst V9
      clear HC
      go_wp2
      refine bodyPost_ret (v := .tuple #[.agg #[.int .i64 0, .int .i64 0, .int .i64 0, .string ⟨#[]⟩, .int .i64 0], .int .i64 0, .bool false]) ?_ rfl HE.out.1
      exact res_3E (fn := Tryd.f44) (p := 4) (q := 5) (r := 6) (by rfl) _ _ zb _ (by rfl) HE.out.2 infoE5
  · obtain ⟨hat, hsp, hn, hz, hok, hbw⟩ := hst
    replace hat : _ = Value.int .i64 p4 := hat
    replace hsp : _ = Value.string X := hsp
    subst hat hsp
    replace hn : wr.heap[nb]? = some (.cells #[.int .i64 (m1 : Int), .int .i64 (m2 : Int), .int .i64 (m3 : Int), .int .i64 0, .int .i64 0] 97 (0, 0)) := hn
    replace hok : f1 = 0 ∧ f2 = 0 ∧ f3 = 0 ∧ f4 = 0 := hok
    have w1 : getAt bs p = (n1, p1, 0) := by rw [HP.out.1, hok.1]
    have w2 : getAt bs p1 = (n2, p2, 0) := by rw [HP.out.2.1, hok.2.1]
    have w3 : getAt bs p2 = (n3, p3, 0) := by rw [HP.out.2.2.1, hok.2.2.1]
    have w4 : textAt bs p3 32 = (t, p4, 0) := by rw [HP.out.2.2.2.1, hok.2.2.2]
    have HC := HNU.out p4 n5 p5 f5 wr HP.out.2.2.2.2.1 HP.out.2.2.2.2.2.2.2.2.2
    by_cases x : f5 = 0
    · skip
      rw [show decide (f5 = 0) = true from decide_eq_true x, HMM.out.2.2.2] at HC
      obtain ⟨k0, k1, k2, k3, k4, kz⟩ := row5 hn
      have kf := kz 4
      obtain ⟨W8, hW8⟩ : ∃ x, wr.setCell ⟨nb, 4, none⟩ (.int .i64 (m5 : Int)) = x := ⟨_, rfl⟩
      have HE : Hid (EntR w zb nb 97 (fun i => match i with | 0 => p | 1 => p1 | 2 => p2 | 3 => p3 | 4 => p4 | _ => p5) (fun i => match i with | 0 => ⟨#[]⟩ | 1 => ⟨#[]⟩ | 2 => ⟨#[]⟩ | 3 => ⟨#[]⟩ | _ => X) (fun i => match i with | 0 => #[.int .i64 0, .int .i64 0, .int .i64 0, .int .i64 0, .int .i64 0] | 1 => #[.int .i64 (m1 : Int), .int .i64 0, .int .i64 0, .int .i64 0, .int .i64 0] | 2 => #[.int .i64 (m1 : Int), .int .i64 (m2 : Int), .int .i64 0, .int .i64 0, .int .i64 0] | 3 => #[.int .i64 (m1 : Int), .int .i64 (m2 : Int), .int .i64 (m3 : Int), .int .i64 0, .int .i64 0] | 4 => #[.int .i64 (m1 : Int), .int .i64 (m2 : Int), .int .i64 (m3 : Int), .int .i64 0, .int .i64 0] | _ => #[.int .i64 (m1 : Int), .int .i64 (m2 : Int), .int .i64 (m3 : Int), .int .i64 0, .int .i64 (m5 : Int)]) (fun i => match i with | 0 => True | 1 => f1 = 0 | 2 => f1 = 0 ∧ f2 = 0 | 3 => f1 = 0 ∧ f2 = 0 ∧ f3 = 0 | 4 => f1 = 0 ∧ f2 = 0 ∧ f3 = 0 ∧ f4 = 0 | _ => f1 = 0 ∧ f2 = 0 ∧ f3 = 0 ∧ f4 = 0 ∧ f5 = 0) 5 (.int .i64 p5) (.string X) W8) := by
        refine ⟨rfl, rfl, ?_, ?_, ⟨hok.1, hok.2.1, hok.2.2.1, hok.2.2.2, x⟩, ?_⟩
        · rw [← hW8, heap_setCell_same _ _ _ _ _ _ hn]; rfl
        · rw [← hW8, heap_setCell_other _ _ _ _ (by show zb ≠ nb; have := HNB.out; omega)]; exact hz
        · rw [← hW8]; exact hbw.setCell (show w.heap.size ≤ nb by have := HNB.out; have := HZB.out; omega) _
      clear hn hz hbw kz x hok w1 w2 w3 w4
      go_wp2_with fail
      refine HC.mono ?_
      rintro e V9 ⟨rfl, hV9⟩
      subst V9
      clear HC
      go_wp2
      exact ⟨⟨5, by omega, by go_num, HE.out⟩, by simp [intOf]⟩
    · have hno : entAt KD62 bs p = none := entAt_5 w1 w2 w3 w4 (by rw [HP.out.2.2.2.2.1]; exact x)
      rw [show decide (f5 = 0) = false from decide_eq_false x] at HC
      obtain ⟨x0, x1, x2, x3, x4, fz⟩ := row5 hz
      have g0 := fz 0
      have g1 := fz 1
      have g2 := fz 2
      have g3 := fz 3
      have g4 := fz 4
      obtain ⟨W5, hW5⟩ : ∃ W5, ((((wr.setCell ⟨zb, 0, none⟩ (.int .i64 0)).setCell ⟨zb, 1, none⟩ (.int .i64 0)).setCell ⟨zb, 2, none⟩ (.int .i64 0)).setCell ⟨zb, 3, none⟩ (.string ⟨#[]⟩)).setCell ⟨zb, 4, none⟩ (.int .i64 0) = W5 := ⟨_, rfl⟩
      have HE : Hid (EtTo w (entAt KD62 bs p) (.returned (.tuple #[.agg #[.int .i64 0, .int .i64 0, .int .i64 0, .string ⟨#[]⟩, .int .i64 0], .int .i64 0, .bool false])) W5 ∧ W5.heap[zb]? = some (.cells #[.int .i64 0, .int .i64 0, .int .i64 0, .string ⟨#[]⟩, .int .i64 0] 36 (0, 0))) := by
        refine ⟨?_, by rw [← hW5]; exact set5 hz _ _ _ _ _⟩
        rw [hno]
        refine ⟨rfl, ?_⟩
        rw [← hW5]
        exact below5s hbw (Nat.le_of_eq HZB.out) _ _ _ _ _
      clear hz hbw hn hno fz x hok w1 w2 w3 w4
      go_wp2_with fail
      refine HC.mono ?_
      rintro e V9 ⟨rfl, hV9⟩
      subst V9
      clear HC
      go_wp2
      refine bodyPost_ret (v := .tuple #[.agg #[.int .i64 0, .int .i64 0, .int .i64 0, .string ⟨#[]⟩, .int .i64 0], .int .i64 0, .bool false]) ?_ rfl HE.out.1
      exact res_3E (fn := Tryd.f44) (p := 4) (q := 5) (r := 6) (by rfl) _ _ zb _ (by rfl) HE.out.2 infoE5
  · obtain ⟨hat, hsp, hn, hz, hok, hbw⟩ := hst
    replace hat : _ = Value.int .i64 p5 := hat
    replace hsp : _ = Value.string X := hsp
    subst hat hsp
    replace hn : wr.heap[nb]? = some (.cells #[.int .i64 (m1 : Int), .int .i64 (m2 : Int), .int .i64 (m3 : Int), .int .i64 0, .int .i64 (m5 : Int)] 97 (0, 0)) := hn
    replace hok : f1 = 0 ∧ f2 = 0 ∧ f3 = 0 ∧ f4 = 0 ∧ f5 = 0 := hok
    have w1 : getAt bs p = (n1, p1, 0) := by rw [HP.out.1, hok.1]
    have w2 : getAt bs p1 = (n2, p2, 0) := by rw [HP.out.2.1, hok.2.1]
    have w3 : getAt bs p2 = (n3, p3, 0) := by rw [HP.out.2.2.1, hok.2.2.1]
    have w4 : textAt bs p3 32 = (t, p4, 0) := by rw [HP.out.2.2.2.1, hok.2.2.2.1]
    have w5 : getAt bs p4 = (n5, p5, 0) := by rw [HP.out.2.2.2.2.1, hok.2.2.2.2]
    obtain ⟨k0, k1, k2, k3, k4, _⟩ := row5 hn
    obtain ⟨x0, x1, x2, x3, x4, fz⟩ := row5 hz
    have g0 := fz 0
    have g1 := fz 1
    have g2 := fz 2
    have g3 := fz 3
    have g4 := fz 4
    obtain ⟨W5, hW5⟩ : ∃ W5, ((((wr.setCell ⟨zb, 0, none⟩ (.int .i64 (m1 : Int))).setCell ⟨zb, 1, none⟩ (.int .i64 (m2 : Int))).setCell ⟨zb, 2, none⟩ (.int .i64 (m3 : Int))).setCell ⟨zb, 3, none⟩ (.string X)).setCell ⟨zb, 4, none⟩ (.int .i64 (m5 : Int)) = W5 := ⟨_, rfl⟩
    have HE : Hid (EtTo w (entAt KD62 bs p) (.returned (.tuple #[.agg #[.int .i64 (m1 : Int), .int .i64 (m2 : Int), .int .i64 (m3 : Int), .string X, .int .i64 (m5 : Int)], .int .i64 p5, .bool true])) W5 ∧ W5.heap[zb]? = some (.cells #[.int .i64 (m1 : Int), .int .i64 (m2 : Int), .int .i64 (m3 : Int), .string X, .int .i64 (m5 : Int)] 36 (0, 0))) := by
      refine ⟨?_, by rw [← hW5]; exact set5 hz _ _ _ _ _⟩
      rw [entAt_yes w1 w2 w3 w4 w5, HMM.out.1, HMM.out.2.1, HMM.out.2.2.1, HMM.out.2.2.2, HXX.out]
      refine ⟨rfl, ?_⟩
      rw [← hW5]
      exact below5s hbw (Nat.le_of_eq HZB.out) _ _ _ _ _
    clear hz hn hbw fz hok w1 w2 w3 w4 w5
    go_wp2
    refine bodyPost_ret (v := .tuple #[.agg #[.int .i64 (m1 : Int), .int .i64 (m2 : Int), .int .i64 (m3 : Int), .string X, .int .i64 (m5 : Int)], .int .i64 p5, .bool true]) ?_ rfl HE.out.1
    exact res_3E (fn := Tryd.f44) (p := 4) (q := 5) (r := 6) (by rfl) _ _ zb _ (by rfl) HE.out.2 infoE5
end Go.Proofs.YtkhidkilkbmpoaaDoor
