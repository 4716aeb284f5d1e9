/- Walks over a Journal's lay, setMark, finish. A walk over a Journal's load, and its Read. -/
import Derived.Test.YtdgffocmdkadpaaGreatJT
namespace Go.Proofs.YtdgffocmdkadpaaGreat
open Go.RowKit Go.Shelf
/-- Changes, as cells. -/
def chV (c : Chg) : List Value := [.int .i64 (c.1 : Int), .string c.2]
def chsV (l : List Chg) : List Value := l.flatMap chV
theorem chsV_len (l : List Chg) : (chsV l).length = l.length * 2 := wtsV_len l
theorem chsV_snoc (l : List Chg) (p : Chg) : chsV (l ++ [p]) = chsV l ++ [.int .i64 (p.1 : Int), .string p.2] := wtsV_snoc l p
theorem chsV_one (l : List Chg) : ∀ u ∈ chsV l, u.oneCell' = true := wtsV_one l
theorem chsV_at (l : List Chg) (i : Nat) (q : Chg) (h : l[i]? = some q) : (chsV l)[2 * i]? = some (.int .i64 (q.1 : Int)) ∧ (chsV l)[2 * i + 1]? = some (.string q.2) := wtsV_at l i q h
/-- What a walk is told of a slice of changes. -/
def Cs (w : World) (a : Option Addr) (len cap : Nat) (l : List Chg) : Prop :=
  l.length = len ∧ len ≤ cap ∧ cap ≤ 9223372036854775807 ∧ (0 < len → ∃ b o, a = some ⟨b, o, none⟩ ∧ b < w.heap.size ∧ ∀ i (h : i < l.length), w.cell? ⟨b, o + i * 2, none⟩ = some (.int .i64 (l[i].1 : Int)) ∧ w.cell? ⟨b, o + i * 2 + 1, none⟩ = some (.string l[i].2))
theorem Cs.keep {w w' : World} {a : Option Addr} {len cap : Nat} {l : List Chg} (h : Cs w a len cap l) (hsz : w.heap.size ≤ w'.heap.size) (hk : ∀ x, ob a = some x → x < w.heap.size → w'.heap[x]? = w.heap[x]?) : Cs w' a len cap l := by
  obtain ⟨h1, h2, h3, h4⟩ := h
  refine ⟨h1, h2, h3, fun h0 => ?_⟩
  obtain ⟨b, o, rfl, hb, hc⟩ := h4 h0
  refine ⟨b, o, rfl, by omega, fun i hi => ?_⟩
  have e := hk b rfl hb
  have k : ∀ z, w'.cell? ⟨b, z, none⟩ = w.cell? ⟨b, z, none⟩ := fun z => World.cell?_of_block (w := w) e
  rw [k, k]
  exact hc i hi
theorem Cs.below {w w' : World} {a : Option Addr} {len cap : Nat} {l : List Chg} (h : Cs w a len cap l) (hb : Below w.heap.size w w') : Cs w' a len cap l := h.keep hb.size fun x _ hx => hb.block x hx
theorem Cs.mut {w w' : World} {S : Nat → Prop} {g : Nat} {D : Dk} {a : Option Addr} {len cap : Nat} {l : List Chg} (h : Cs w a len cap l) (m : Mut S w g D w') (hn : ∀ x, ob a = some x → ¬ S x) : Cs w' a len cap l := h.keep m.size fun x hx hl => m.block hl (hn x hx)
theorem Cs.own {w : World} {base : Nat} {a : Option Addr} {len cap : Nat} {l : List Chg} (h : w.ownsRow base 32 2 (.slice a len cap) len (chsV l)) (hl : l.length = len) : Cs w a len cap l := by
  rcases h.2 with ⟨h2, h3⟩ | ⟨g', cap', cur, e, hb, hr, h3, h4, h5, h6⟩
  · cases h2
    exact ⟨hl, Nat.le_refl _, by omega, by omega⟩
  · cases e
    refine ⟨hl, h3, by unfold maxLen at h4; omega, fun h0 => ⟨g', 0, rfl, lt_of_some hr, fun i hi => ?_⟩⟩
    obtain ⟨e1, e2⟩ := chsV_at l i l[i] (List.getElem?_eq_getElem hi)
    have c1 := own_at h e1
    have c2 := own_at h e2
    rw [show 0 + i * 2 = 2 * i by omega]
    exact ⟨c1, c2⟩
theorem layL_len (f : Nat) (l : List Chg) : (layL f l).length = 4 * l.length + 1 := by
  unfold layL layW
  rw [List.length_append, List.length_map]
  have : (l.flatMap fun c => laidW (f + 4 * c.1) c.2).length = 4 * l.length := by
    induction l with
    | nil => rfl
    | cons c l ih =>
      rw [List.flatMap_cons, List.length_append, ih, List.length_cons]
      show 4 + _ = _
      omega
  rw [this]
  rfl
def laysL (f : Nat) (l : List Chg) : List Stp := l.flatMap fun c => laidL (f + 4 * c.1) c.2
theorem layL_is (f : Nat) (l : List Chg) : layL f l = laysL f l ++ [none] := by
  unfold layL layW laysL laidL
  rw [List.map_flatMap]
theorem laysL_snoc (f : Nat) (l : List Chg) (c : Chg) : laysL f (l ++ [c]) = laysL f l ++ laidL (f + 4 * c.1) c.2 := by
  simp [laysL]
theorem laysL_app (f : Nat) (l m : List Chg) : laysL f (l ++ m) = laysL f l ++ laysL f m := by
  simp [laysL]
theorem laysL_len (f : Nat) (l : List Chg) : (laysL f l).length = 4 * l.length := by
  have := layL_len f l
  rw [layL_is] at this
  simpa using this
set_option maxRecDepth 100000 in
set_option maxHeartbeats 2000000 in
theorem lay_any {w : World} {S : Nat → Prop} {jb g n : Nat} {D : Dk} (h : DiskIs w S g D) (hj : Jat w jb g n) (hnj : ¬ S jb) (a : Option Addr) (len cap : Nat) (l : List Chg) (hl : Cs w a len cap l) (hnl : ∀ x, ob a = some x → ¬ S x) (f : Nat)
    (hs : ∀ c ∈ l, c.2.size = 1024) (hf : ∀ c ∈ l, f + 4 * c.1 + 4 ≤ D.kept.length) (hlen : len ≤ 1000) (hw : D.writes + 4 * len < 1000000) :
    Calls Tryz.prog 46 #[.pointer (some ⟨jb, 0, none⟩), .slice a len cap, .int .i64 (f : Int)] w fun e w' => e = .returned (.int .i64 (codeS D (layL f l) : Int)) ∧ Mut S w g (runS D (layL f l)) w' := by
  have hk2 := h.ok.n2
  have hll := hl.1
  have HI : Hid (codeS D (laysL f (l.take 0)) = 0 ∧ Mut S w g (runS D (laysL f (l.take 0))) w) := ⟨rfl, Mut.same h⟩
  have HJ : Hid (Jat w jb g n) := hj
  have HL : Hid (Cs w a len cap l) := hl
  have HNL : Hid (∀ x, ob a = some x → ¬ S x) := hnl
  have HF : Hid (∀ c ∈ l, c.2.size = 1024 ∧ f + 4 * c.1 + 4 ≤ D.kept.length) := fun c hc => ⟨hs c hc, hf c hc⟩
  clear h hj hl hnl hs hf
  go_enter Tryz.func46, Tryz.ntmps46
  go_wp2
  go_loopw [12] (fun v wr => ∃ i : Nat, i ≤ len ∧ v = .int .i64 i ∧ codeS D (laysL f (l.take i)) = 0 ∧ Mut S w g (runS D (laysL f (l.take i))) wr) (fun v _ => len - (intOf v).toNat)
  case atStart => exact ⟨0, by omega, rfl, HI.out⟩
  case round =>
    clear HI
    obtain ⟨i, hi, rfl, hcode, hmut⟩ := hrel
    have hlen1 : (runS D (laysL f (l.take i))).kept.length = D.kept.length := runS_len _ _
    have hwr1 := runS_writes D (laysL f (l.take i))
    rw [laysL_len, List.length_take] at hwr1
    by_cases hlt : i < len
    · have kk : (i : Int) < (len : Int) := by omega
      have hil : i < l.length := by omega
      obtain ⟨c, hc⟩ : ∃ c, l[i] = c := ⟨_, rfl⟩
      have hcm : c ∈ l := by rw [← hc]; exact List.getElem_mem hil
      obtain ⟨hcs, hcf⟩ := HF.out c hcm
      have HTK : Hid (l.take (i + 1) = l.take i ++ [c]) := by show _ = _; rw [List.take_succ_eq_append_getElem hil, hc]
      have HAL : Hid (l = l.take i ++ ([c] ++ l.drop (i + 1))) := by
        show _ = _
        rw [← List.append_assoc, ← HTK.out, List.take_append_drop]
      obtain ⟨b, o, rfl, hb, hcell⟩ := (HL.out.mut hmut HNL.out).2.2.2 (by omega)
      obtain ⟨c1, c2⟩ := hcell i hil
      rw [hc] at c1 c2
      obtain ⟨p, s⟩ := c
      simp only at c1 c2 hcs hcf
      have hpn : p ≤ 2048 := by omega
      obtain ⟨W1, hW1⟩ : ∃ W1, (wr.alloc (.cells #[.int .i64 (p : Int), .string s] 32)) = W1 := ⟨_, rfl⟩
      obtain ⟨B, hB⟩ : ∃ B, wr.heap.size = B := ⟨_, rfl⟩
      have hr1 : W1.heap[B]? = some (.cells #[.int .i64 (p : Int), .string s] 32 (0, 0)) := by rw [← hW1, ← hB]; exact heap_alloc_new wr _
      have d1 : W1.cell? ⟨B, 0, none⟩ = some (.int .i64 (p : Int)) := by rw [cell_of_row W1 B _ _ _ _ hr1]; rfl
      have d2 : W1.cell? ⟨B, 1, none⟩ = some (.string s) := by rw [cell_of_row W1 B _ _ _ _ hr1]; rfl
      have hbel : Below wr.heap.size wr W1 := by rw [← hW1]; exact (Below.refl _ wr).alloc (Nat.le_refl _) _
      have hmut1 : Mut S w g (runS D (laysL f (l.take i))) W1 := hmut.after hbel
      obtain ⟨D1, hD1⟩ : ∃ D1, runS D (laysL f (l.take i)) = D1 := ⟨_, rfl⟩
      have HON : Hid (codeS D1 (laidL (f + 4 * p) s) = 0 → codeS D (laysL f (l.take (i + 1))) = 0 ∧ runS D (laysL f (l.take (i + 1))) = runS D1 (laidL (f + 4 * p) s)) := fun h => by
        rw [HTK.out, laysL_snoc]
        rw [← hD1] at h ⊢
        exact run_on hcode h
      have HOFF : Hid (codeS D1 (laidL (f + 4 * p) s) = 10 → codeS D (layL f l) = 10 ∧ runS D (layL f l) = runS D1 (laidL (f + 4 * p) s)) := fun h => by
        rw [HAL.out, layL_is, laysL_app, laysL_app, List.append_assoc, List.append_assoc]
        rw [← hD1] at h ⊢
        have e : laysL f [(p, s)] = laidL (f + 4 * p) s := by simp [laysL]
        rw [e]
        exact run_off hcode h
      rw [hD1] at hmut1 hlen1 hwr1
      obtain ⟨S1, hd1, hu1, hs1⟩ := hmut1
      have hnj1 : ¬ S1 jb := fun h => (hs1 jb h).elim hnj (fun h => by have := HJ.out.lt; omega)
      have HST := store_any hd1 (HJ.out.upd hu1 hnj) hnj1 (f + 4 * p) s hcs (by omega) (by omega)
      have kf : ((f + 4 * p : Nat) : Int) = (f : Int) + 4 * (p : Int) := by omega
      rw [kf] at HST
      have HU1 : Hid (Upd S w W1 ∧ ∀ x, S1 x → S x ∨ w.heap.size ≤ x) := ⟨hu1, hs1⟩
      clear HTK HAL hcode hmut hcell hd1 hu1 hs1 hbel hr1 hD1 hc hcm hcs
      rcases codeS_or D1 (laidL (f + 4 * p) s) with hc | hc
      · have HN : Hid _ := HON.out hc
        rw [hc] at HST
        clear HON HOFF hc
        go_wp2_with fail
        refine HST.mono ?_
        rintro e w3 ⟨rfl, hm3⟩
        have HM : Hid (codeS D (laysL f (l.take (i + 1))) = 0 ∧ Mut S w g (runS D (laysL f (l.take (i + 1)))) w3) := by
          obtain ⟨e1, e2⟩ := HN.out
          rw [e1, e2]
          exact ⟨rfl, Mut.trans HU1.out.1 HU1.out.2 hm3⟩
        clear HST hm3 HU1
        go_wp2
        exact ⟨⟨i + 1, by omega, by go_num, HM.out⟩, by simp [intOf]; omega⟩
      · have HN : Hid _ := HOFF.out hc
        rw [hc] at HST
        clear HON HOFF hc
        go_wp2_with fail
        refine HST.mono ?_
        rintro e w3 ⟨rfl, hm3⟩
        have HM : Hid (codeS D (layL f l) = 10 ∧ Mut S w g (runS D (layL f l)) w3) := by
          obtain ⟨e1, e2⟩ := HN.out
          rw [e1, e2]
          exact ⟨rfl, Mut.trans HU1.out.1 HU1.out.2 hm3⟩
        clear HST hm3 HU1
        go_wp2
        go_ret
        refine ⟨ret_int ?_, HM.out.2⟩
        rw [HM.out.1]
        rfl
    · obtain rfl : i = len := by omega
      have kk : ¬ (i : Int) < (i : Int) := by omega
      rw [List.take_of_length_le (by omega)] at hcode hmut hlen1 hwr1
      obtain ⟨D1, hD1⟩ : ∃ D1, runS D (laysL f l) = D1 := ⟨_, rfl⟩
      have HE : Hid (codeS D (layL f l) = codeS D1 [none] ∧ runS D (layL f l) = runS D1 [none]) := by
        rw [layL_is, codeS_app, runS_app, if_pos hcode, if_pos hcode, hD1]
        exact ⟨rfl, rfl⟩
      rw [hD1] at hmut
      obtain ⟨S1, hd1, hu1, hs1⟩ := hmut
      have HFL := flush_ok hd1
      obtain ⟨cj, _⟩ := (HJ.out.upd hu1 hnj).cells
      have HU1 : Hid (Upd S w wr ∧ ∀ x, S1 x → S x ∨ w.heap.size ≤ x) := ⟨hu1, hs1⟩
      clear hcode hd1 hu1 hs1 hD1
      go_wp2_with fail
      refine HFL.mono ?_
      rintro e w3 ⟨rfl, hm3⟩
      go_wp2
      go_ret
      refine ⟨ret_int ?_, ?_⟩
      · rw [HE.out.1]
      · rw [HE.out.2]
        exact Mut.trans HU1.out.1 HU1.out.2 hm3
set_option maxHeartbeats 1000000 in
theorem setMark_any {w : World} {S : Nat → Prop} {jb g n : Nat} {D : Dk} (h : DiskIs w S g D) (hj : Jat w jb g n) (hnj : ¬ S jb) (m : ByteArray) (hm : m.size = 256) (hw : D.writes < 1000000) :
    Calls Tryz.prog 47 #[.pointer (some ⟨jb, 0, none⟩), .string m] w fun e w' => e = .returned (.int .i64 (codeS D (markL m) : Int)) ∧ Mut S w g (runS D (markL m)) w' := by
  have hn1 := h.ok.n1
  have HW := write_ok h 0 m (by omega) hm hw
  obtain ⟨cj, _⟩ := hj.cells
  have HJ : Hid (Jat w jb g n) := hj
  clear h hj
  rcases codeS_or D [some (0, m)] with hc | hc
  · have HE : Hid (codeS D (markL m) = codeS (runS D [some (0, m)]) [none] ∧ runS D (markL m) = runS (runS D [some (0, m)]) [none]) := by
      show codeS D ([some (0, m)] ++ [none]) = _ ∧ runS D ([some (0, m)] ++ [none]) = _
      rw [codeS_app D [some (0, m)] [none], runS_app D [some (0, m)] [none], if_pos hc, if_pos hc]
      exact ⟨rfl, rfl⟩
    rw [hc] at HW
    clear hc
    go_enter Tryz.func47, Tryz.ntmps47
    go_wp2_with fail
    refine HW.mono ?_
    rintro e w3 ⟨rfl, hm3⟩
    obtain ⟨S1, hd1, hu1, hs1⟩ := hm3
    have HFL := flush_ok hd1
    obtain ⟨cj, _⟩ := (HJ.out.upd hu1 hnj).cells
    have HU1 : Hid (Upd S w w3 ∧ ∀ x, S1 x → S x ∨ w.heap.size ≤ x) := ⟨hu1, hs1⟩
    clear HW hd1 hu1 hs1
    go_wp2_with fail
    refine HFL.mono ?_
    rintro e w4 ⟨rfl, hm4⟩
    go_wp2
    go_ret
    refine ⟨ret_int ?_, ?_⟩
    · rw [HE.out.1]
    · rw [HE.out.2]
      exact Mut.trans HU1.out.1 HU1.out.2 hm4
  · have HE : Hid (codeS D (markL m) = 10 ∧ runS D (markL m) = runS D [some (0, m)]) := by
      show codeS D ([some (0, m)] ++ [none]) = _ ∧ runS D ([some (0, m)] ++ [none]) = _
      rw [codeS_app D [some (0, m)] [none], runS_app D [some (0, m)] [none], hc]
      exact ⟨rfl, rfl⟩
    rw [hc] at HW
    clear hc
    go_enter Tryz.func47, Tryz.ntmps47
    go_wp2_with fail
    refine HW.mono ?_
    rintro e w3 ⟨rfl, hm3⟩
    go_wp2
    go_ret
    refine ⟨ret_int ?_, ?_⟩
    · rw [HE.out.1]; rfl
    · rw [HE.out.2]; exact hm3
theorem nought_size : nought.size = 256 := by unfold nought; rw [strOf_size, List.length_replicate]
theorem rep_any (w : World) : Calls Tryz.prog 85 #[.string ⟨#[0]⟩, .int .i64 256] w fun e w' => e = .returned (.string nought) ∧ Below w.heap.size w w' := by
  have := Tryz.strings_Repeat ⟨#[0]⟩ 256 w (by omega) (by show 1 * 256 ≤ _; omega)
  refine this.mono ?_
  rintro e w' ⟨rfl, hb⟩
  exact ⟨by rw [← nought_rep], hb⟩
set_option maxHeartbeats 1000000 in
theorem finish_any {w : World} {S : Nat → Prop} {jb g n : Nat} {D : Dk} (h : DiskIs w S g D) (hj : Jat w jb g n) (hnj : ¬ S jb) (hn : n ≤ 128) (hkn : 8 * n + 1 ≤ D.kept.length) (a : Option Addr) (len cap : Nat) (l : List Chg) (hl : Cs w a len cap l) (hnl : ∀ x, ob a = some x → ¬ S x)
    (hs : ∀ c ∈ l, c.2.size = 1024) (hf : ∀ c ∈ l, c.1 < n) (hlen : len ≤ 1000) (hw : D.writes + 4 * len + 2 < 1000000) :
    Calls Tryz.prog 48 #[.pointer (some ⟨jb, 0, none⟩), .slice a len cap] w fun e w' => e = .returned (.int .i64 (codeS D (finS n l) : Int)) ∧ Mut S w g (runS D (finS n l)) w' := by
  have HP := pagesAt_any hj hn
  have HL := lay_any h hj hnj a len cap l hl hnl (1 + 4 * n) hs (fun c hc => by have := hf c hc; omega) hlen (by omega)
  have hwr := runS_writes D (layL (1 + 4 * n) l)
  have hl1 := hl.1
  rw [layL_len] at hwr
  have HJ : Hid (Jat w jb g n) := hj
  clear h hj hl hnl hs hf
  obtain ⟨D1, hD1⟩ : ∃ D1, runS D (layL (1 + 4 * n) l) = D1 := ⟨_, rfl⟩
  rw [hD1] at HL hwr
  rcases codeS_or D (layL (1 + 4 * n) l) with hc | hc
  · have HE : Hid (codeS D (finS n l) = codeS D1 (markL nought) ∧ runS D (finS n l) = runS D1 (markL nought)) := by
      unfold finS
      rw [codeS_app D (layL (1 + 4 * n) l) _, runS_app D (layL (1 + 4 * n) l) _, if_pos hc, if_pos hc, hD1]
      exact ⟨rfl, rfl⟩
    rw [hc] at HL
    clear hc hD1
    go_enter Tryz.func48, Tryz.ntmps48
    go_wp2_with (go_at_call 96; refine HP.mono ?_; rintro e V1 ⟨rfl, hV⟩; subst V1)
    refine HL.mono ?_
    rintro e w3 ⟨rfl, hm3⟩
    have HR := rep_any w3
    have HM3 : Hid (Mut S w g D1 w3) := hm3
    clear HL HP hm3
    go_wp2_with fail
    refine HR.mono ?_
    rintro e w4 ⟨rfl, hb4⟩
    obtain ⟨S1, hd1, hu1, hs1⟩ := HM3.out.after hb4
    have hnj1 : ¬ S1 jb := fun h => (hs1 jb h).elim hnj (fun h => by have := HJ.out.lt; omega)
    have HSM := setMark_any hd1 (HJ.out.upd hu1 hnj) hnj1 nought nought_size (by omega)
    have HU1 : Hid (Upd S w w4 ∧ ∀ x, S1 x → S x ∨ w.heap.size ≤ x) := ⟨hu1, hs1⟩
    clear HR hd1 hu1 hs1 hb4 HM3
    go_wp2_with fail
    refine HSM.mono ?_
    rintro e w5 ⟨rfl, hm5⟩
    go_wp2
    go_ret
    refine ⟨ret_int ?_, ?_⟩
    · rw [HE.out.1]
    · rw [HE.out.2]
      exact Mut.trans HU1.out.1 HU1.out.2 hm5
  · have HE : Hid (codeS D (finS n l) = 10 ∧ runS D (finS n l) = D1) := by
      unfold finS
      rw [codeS_app D (layL (1 + 4 * n) l) _, runS_app D (layL (1 + 4 * n) l) _, hc, hD1]
      exact ⟨rfl, rfl⟩
    rw [hc] at HL
    clear hc hD1
    go_enter Tryz.func48, Tryz.ntmps48
    go_wp2_with (go_at_call 96; refine HP.mono ?_; rintro e V1 ⟨rfl, hV⟩; subst V1)
    refine HL.mono ?_
    rintro e w3 ⟨rfl, hm3⟩
    go_wp2
    go_ret
    refine ⟨ret_int ?_, ?_⟩
    · rw [HE.out.1]; rfl
    · rw [HE.out.2]; exact hm3
end Go.Proofs.YtdgffocmdkadpaaGreat
namespace Go.Proofs.YtdgffocmdkadpaaGreat
open Go.RowKit Go.Shelf
/-- The first i of a page's sectors. -/
def preAt (K : List ByteArray) (a : Nat) : Nat → ByteArray
  | 0 => ByteArray.empty
  | i + 1 => preAt K a i ++ at_ K (a + i)
theorem preAt_four (K : List ByteArray) (a : Nat) : preAt K a 4 = pageAt K a := by
  show ByteArray.empty ++ at_ K (a + 0) ++ at_ K (a + 1) ++ at_ K (a + 2) ++ at_ K (a + 3) = _
  rw [ByteArray.empty_append]
  rfl
theorem preAt_size (K : List ByteArray) (a i : Nat) (h : ∀ j, j < i → (at_ K (a + j)).size = 256) : (preAt K a i).size = 256 * i := by
  induction i with
  | zero => rfl
  | succ i ih =>
    show (preAt K a i ++ at_ K (a + i)).size = _
    rw [ByteArray.size_append, ih (fun j hj => h j (by omega)), h i (by omega)]
    omega
theorem strCells_app (a b : ByteArray) : Lib.strCells (a ++ b) = Lib.strCells a ++ Lib.strCells b := by
  simp [Lib.strCells]
set_option maxRecDepth 100000 in
set_option maxHeartbeats 1000000 in
theorem load_any {w : World} {S : Nat → Prop} {jb g n : Nat} {D : Dk} (h : DiskIs w S g D) (hj : Jat w jb g n) (a : Nat) (hu : D.up = true) (ha : a + 4 ≤ D.kept.length) (hsz : ∀ j, j < 4 → (at_ D.seen (a + j)).size = 256) :
    Calls Tryz.prog 107 #[.pointer (some ⟨jb, 0, none⟩), .int .i64 (a : Int)] w fun e w' => e = .returned (.tuple #[.string (pageAt D.seen a), .int .i64 0]) ∧ Below w.heap.size w w' := by
  have hk2 := h.ok.n2
  have HRD : Hid (∀ W i, Below w.heap.size w W → i < 4 → Calls Tryz.prog 105 #[.pointer (some ⟨g, 0, none⟩), .int .i64 ((a + i : Nat) : Int)] W fun e w' => e = .returned (.tuple #[.string (at_ D.seen (a + i)), .int .i64 0]) ∧ w' = W) := fun W i hW hi => read_any (h.below hW) (a + i) hu (by omega)
  have HJ : Hid (∀ W, Below w.heap.size w W → W.cell? ⟨jb, 0, none⟩ = some (.pointer (some ⟨g, 0, none⟩))) := fun W hW => (hj.below hW).cells.1
  have HSZ : Hid (∀ j, j < 4 → (at_ D.seen (a + j)).size = 256) := hsz
  have HI : Hid (Lib.IsBuilder 157 5 w.heap.size w.heap.size (Lib.strCells (preAt D.seen a 0)) (w.alloc (.cells #[.pointer none, .slice none 0 0] 157)) ∧ Below w.heap.size w (w.alloc (.cells #[.pointer none, .slice none 0 0] 157))) :=
    ⟨Lib.fresh_isBuilder 157 5 w, (Below.refl _ w).alloc (Nat.le_refl _) _⟩
  clear h hj hsz
  go_enter Tryz.func107, Tryz.ntmps107
  go_wp2
  go_loopw [10] (fun v wr => ∃ i : Nat, i ≤ 4 ∧ v = .int .i64 i ∧ Lib.IsBuilder 157 5 w.heap.size w.heap.size (Lib.strCells (preAt D.seen a i)) wr ∧ Below w.heap.size w wr) (fun v _ => 4 - (intOf v).toNat)
  case atStart => exact ⟨0, by omega, rfl, HI.out⟩
  case round =>
    clear HI
    obtain ⟨i, hi, rfl, hbu, hbel⟩ := hrel
    have HB : Hid (Lib.IsBuilder 157 5 w.heap.size w.heap.size (Lib.strCells (preAt D.seen a i)) wr) := hbu
    have HL : Hid (Below w.heap.size w wr) := hbel
    have cj := HJ.out wr hbel
    clear hbu hbel
    by_cases hlt : i < 4
    · have kk : (i : Int) < 4 := by omega
      have HR := HRD.out wr i HL.out hlt
      have kai : ((a + i : Nat) : Int) = (a : Int) + (i : Int) := by omega
      rw [kai] at HR
      have hs1 := HSZ.out i hlt
      obtain ⟨T, hT⟩ : ∃ T, at_ D.seen (a + i) = T := ⟨_, rfl⟩
      have HP : Hid (preAt D.seen a (i + 1) = preAt D.seen a i ++ T) := by show preAt D.seen a i ++ at_ D.seen (a + i) = _; rw [hT]
      rw [hT] at HR hs1
      have hps := preAt_size D.seen a i (fun j hj => HSZ.out j (by omega))
      have hlen : (Lib.strCells (preAt D.seen a i)).length + T.size ≤ 140737488355328 := by rw [Lib.strCells_length, hps, hs1]; omega
      have HWS := wstr_any w.heap.size w.heap.size _ T wr HB.out hlen HL.out.size
      clear hT hlen hps
      go_wp2_with fail
      refine HR.mono ?_
      rintro e V1 ⟨rfl, hV⟩
      subst V1
      clear HR
      go_wp2_with fail
      refine HWS.mono ?_
      rintro e V2 ⟨rfl, hb2, hl2⟩
      have HN : Hid (Lib.IsBuilder 157 5 w.heap.size w.heap.size (Lib.strCells (preAt D.seen a (i + 1))) V2 ∧ Below w.heap.size w V2) := by
        rw [HP.out, strCells_app]
        exact ⟨.inr hb2, HL.out.trans hl2⟩
      clear HWS hb2 hl2 HB HL HP
      go_wp2
      exact ⟨⟨i + 1, by omega, by go_num, HN.out⟩, by simp [intOf]; omega⟩
    · obtain rfl : i = 4 := by omega
      have kk : ¬ (4 : Int) < 4 := by omega
      have hps := preAt_size D.seen a 4 HSZ.out
      have HS := Tryz.Builder_String w.heap.size w.heap.size (preAt D.seen a 4).data.toList wr HB.out (fun e => by
        have : (preAt D.seen a 4).data.toList.length = 1024 := hps
        rw [e] at this
        simp at this)
      have HE : Hid ((⟨(preAt D.seen a 4).data.toList.toArray⟩ : ByteArray) = pageAt D.seen a) := by
        show _ = _
        rw [← preAt_four]
      obtain ⟨T, hT⟩ : ∃ T, (⟨(preAt D.seen a 4).data.toList.toArray⟩ : ByteArray) = T := ⟨_, rfl⟩
      rw [hT] at HS HE
      clear hT hps
      go_wp2_with fail
      refine HS.mono ?_
      rintro e V2 ⟨rfl, hl2⟩
      have HN : Hid (Below w.heap.size w V2) := HL.out.trans hl2
      clear HS hl2 HB HL
      go_wp2
      go_ret2
      exact ⟨by rw [HE.out]; rfl, HN.out⟩
set_option maxRecDepth 100000 in
set_option maxHeartbeats 1000000 in
theorem load_down {w : World} {S : Nat → Prop} {jb g n : Nat} {D : Dk} (h : DiskIs w S g D) (hj : Jat w jb g n) (a : Nat) (hu : D.up = false) (ha : a ≤ 4096) :
    Calls Tryz.prog 107 #[.pointer (some ⟨jb, 0, none⟩), .int .i64 (a : Int)] w fun e w' => e = .returned (.tuple #[.string ⟨#[]⟩, .int .i64 10]) ∧ Below w.heap.size w w' := by
  have hb0 : Below w.heap.size w (w.alloc (.cells #[.pointer none, .slice none 0 0] 157)) := (Below.refl _ w).alloc (Nat.le_refl _) _
  have HRD := read_bad (h.below hb0) (a : Int) (by unfold Dk.reach; rw [hu]; simp)
  have hre : D.reach (a : Int) = 10 := by unfold Dk.reach; rw [hu]; rfl
  rw [hre] at HRD
  have cj := (hj.below hb0).cells.1
  obtain ⟨W1, hW1⟩ : ∃ W1, w.alloc (.cells #[.pointer none, .slice none 0 0] 157) = W1 := ⟨_, rfl⟩
  rw [hW1] at HRD cj hb0
  have HB0 : Hid (Below w.heap.size w W1) := hb0
  clear h hj hb0
  go_enter Tryz.func107, Tryz.ntmps107
  go_wp2
  try rw [hW1]
  go_loopw [10] (fun v wr => v = .int .i64 0 ∧ wr = W1) (fun _ _ => 0)
  case atStart => exact ⟨rfl, rfl⟩
  case round =>
    obtain ⟨rfl, hwr⟩ := hrel
    subst wr
    go_wp2_with fail
    refine HRD.mono ?_
    rintro e V1 ⟨rfl, hV⟩
    subst V1
    go_wp2
    go_ret2
    exact ⟨rfl, HB0.out⟩
theorem read_none (p : Int) (w : World) : Calls Tryz.prog 80 #[.pointer none, .int .i64 p] w fun e w' => e = .returned (.tuple #[.string ⟨#[]⟩, .int .i64 1]) ∧ w' = w := by
  go_enter Tryz.func80, Tryz.ntmps80
  go_wp2
  go_ret2
  exact ⟨rfl, rfl⟩
theorem jread_out {w : World} {jb g n : Nat} (hj : Jat w jb g n) (p : Int) (hp : ¬ (0 ≤ p ∧ p < (n : Int))) : Calls Tryz.prog 80 #[.pointer (some ⟨jb, 0, none⟩), .int .i64 p] w fun e w' => e = .returned (.tuple #[.string ⟨#[]⟩, .int .i64 9]) ∧ w' = w := by
  have HH := has_any hj p
  rw [decide_eq_false hp] at HH
  clear hj hp
  go_enter Tryz.func80, Tryz.ntmps80
  go_wp2_with fail
  refine HH.mono ?_
  rintro e V1 ⟨rfl, hV⟩
  subst V1
  go_wp2
  go_ret2
  exact ⟨rfl, rfl⟩
set_option maxHeartbeats 1000000 in
theorem jread_any {w : World} {S : Nat → Prop} {jb g n : Nat} {D : Dk} (h : DiskIs w S g D) (hj : Jat w jb g n) (hn : n ≤ 128) (hkn : 8 * n + 1 ≤ D.kept.length) (hu : D.up = true) (hsz : ∀ s ∈ D.seen, s.size = 256) (p : Nat) (hp : p < n) :
    Calls Tryz.prog 80 #[.pointer (some ⟨jb, 0, none⟩), .int .i64 (p : Int)] w fun e w' => e = .returned (.tuple #[.string (pageAt D.seen (1 + 4 * n + 4 * p)), .int .i64 0]) ∧ Below w.heap.size w w' := by
  have HH := has_any hj (p : Int)
  rw [decide_eq_true (by omega)] at HH
  have HP := pagesAt_any hj hn
  have HL := load_any h hj (1 + 4 * n + 4 * p) hu (by omega) (fun j hj => hsz _ (by
    unfold at_
    rw [List.getD_eq_getElem?_getD, List.getElem?_eq_getElem (by rw [seen_len]; omega)]
    exact List.getElem_mem _))
  have kf : ((1 + 4 * n + 4 * p : Nat) : Int) = ((1 + 4 * n : Nat) : Int) + 4 * (p : Int) := by omega
  rw [kf] at HL
  obtain ⟨q, hq⟩ : ∃ q : Nat, 1 + 4 * n = q := ⟨_, rfl⟩
  have hq2 : q ≤ 1000 := by omega
  rw [hq] at HL HP
  rw [hq]
  clear h hj hsz
  go_enter Tryz.func80, Tryz.ntmps80
  go_wp2_with (go_at_call 88; refine HH.mono ?_; rintro e V1 ⟨rfl, hV⟩; subst V1)
  refine HP.mono ?_
  rintro e V1 ⟨rfl, hV⟩
  subst V1
  go_wp2_with fail
  refine HL.mono ?_
  rintro e V1 ⟨rfl, hb⟩
  go_wp2
  go_ret2
  exact ⟨rfl, hb⟩
set_option maxHeartbeats 1000000 in
theorem jread_down {w : World} {S : Nat → Prop} {jb g n : Nat} {D : Dk} (h : DiskIs w S g D) (hj : Jat w jb g n) (hn : n ≤ 128) (hu : D.up = false) (p : Nat) (hp : p < n) :
    Calls Tryz.prog 80 #[.pointer (some ⟨jb, 0, none⟩), .int .i64 (p : Int)] w fun e w' => e = .returned (.tuple #[.string ⟨#[]⟩, .int .i64 10]) ∧ Below w.heap.size w w' := by
  have HH := has_any hj (p : Int)
  rw [decide_eq_true (by omega)] at HH
  have HP := pagesAt_any hj hn
  have HL := load_down h hj (1 + 4 * n + 4 * p) hu (by omega)
  have kf : ((1 + 4 * n + 4 * p : Nat) : Int) = ((1 + 4 * n : Nat) : Int) + 4 * (p : Int) := by omega
  rw [kf] at HL
  obtain ⟨q, hq⟩ : ∃ q : Nat, 1 + 4 * n = q := ⟨_, rfl⟩
  have hq2 : q ≤ 1000 := by omega
  rw [hq] at HL HP
  clear h hj
  go_enter Tryz.func80, Tryz.ntmps80
  go_wp2_with (go_at_call 88; refine HH.mono ?_; rintro e V1 ⟨rfl, hV⟩; subst V1)
  refine HP.mono ?_
  rintro e V1 ⟨rfl, hV⟩
  subst V1
  go_wp2_with fail
  refine HL.mono ?_
  rintro e V1 ⟨rfl, hb⟩
  go_wp2
  go_ret2
  exact ⟨rfl, hb⟩
end Go.Proofs.YtdgffocmdkadpaaGreat
