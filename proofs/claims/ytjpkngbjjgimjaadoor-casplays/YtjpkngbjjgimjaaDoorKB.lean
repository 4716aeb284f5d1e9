/- The statements' table, and a store over it, in memory. -/
import Derived.Test.YtjpkngbjjgimjaaDoorKA
namespace Go.Proofs.YtjpkngbjjgimjaaDoor
open Go.RowKit
/-- What lies in F stays. -/
structure Fr (F : Nat → Prop) (w : World) (F' : Nat → Prop) (w' : World) : Prop where
  sz : w.heap.size ≤ w'.heap.size
  sub : ∀ x, F x → F' x
  blk : ∀ x, F x → x < w.heap.size → w'.heap[x]? = w.heap[x]?
theorem Fr.refl (F : Nat → Prop) (w : World) : Fr F w F w := ⟨Nat.le_refl _, fun _ h => h, fun _ _ _ => rfl⟩
theorem Fr.trans {F F' F'' : Nat → Prop} {w w' w'' : World} (h : Fr F w F' w') (k : Fr F' w' F'' w'') : Fr F w F'' w'' :=
  ⟨Nat.le_trans h.sz k.sz, fun x hx => k.sub x (h.sub x hx), fun x hx hl => (k.blk x (h.sub x hx) (Nat.lt_of_lt_of_le hl h.sz)).trans (h.blk x hx hl)⟩
theorem Rw.fr {F F' : Nat → Prop} {w w' : World} {et sz : Nat} {a : Option Addr} {len cap : Nat} {xs : List Value} (h : Rw F w et sz a len cap xs) (f : Fr F w F' w') : Rw F' w' et sz a len cap xs := by
  obtain ⟨h1, h2, h3, h4⟩ := h
  refine ⟨h1, h2, h3, fun h0 => ?_⟩
  obtain ⟨b, o, rfl, ⟨cur, fr, hb⟩, hg, hc⟩ := h4 h0
  have e := f.blk b hg (lt_of_some hb)
  exact ⟨b, o, rfl, ⟨cur, fr, e.trans hb⟩, f.sub b hg, fun j u hu => by rw [World.cell?_of_block (w := w) e]; exact hc j u hu⟩
theorem Pw.fr {F F' : Nat → Prop} {w w' : World} {a : Option Addr} {len cap : Nat} {l : List Pr} (h : Pw F w a len cap l) (f : Fr F w F' w') : Pw F' w' a len cap l := Rw.fr h f
def mor (F : Nat → Prop) (w w' : World) : Nat → Prop := fun x => F x ∨ (w.heap.size ≤ x ∧ x < w'.heap.size)
theorem Fr.below {F : Nat → Prop} {w w' : World} (hb : Below w.heap.size w w') : Fr F w (mor F w w') w' := ⟨hb.size, fun _ h => .inl h, fun x _ hl => hb.block x hl⟩
/-- A table at tb, and a store at st over it; h0 is where all begins that may be turned. -/
structure Cs (h0 : Nat) (F : Nat → Prop) (w : World) (st tb W : Nat) (full : Int) (T : List Pr) : Prop where
  stat : w.heap[st]? = some (.cells #[.iface 27 (.pointer (some ⟨tb, 0, none⟩)), .int .i64 (W : Int)] 71 (0, 0))
  tat : ∃ a n c, w.heap[tb]? = some (.cells #[.slice a n c, .int .i64 full] 30 (0, 0)) ∧ Pw F w a n c T
  fF : ∀ x, F x → x ≠ tb ∧ x < w.heap.size
  ne : st ≠ tb
  h0t : h0 ≤ tb
  h0w : h0 ≤ w.heap.size
  few : T.length ≤ 90000
section
variable {h0 : Nat} {F : Nat → Prop} {w : World} {st tb W : Nat} {full : Int} {T : List Pr}
theorem Cs.below {w' : World} (h : Cs h0 F w st tb W full T) (hb : Below w.heap.size w w') : Cs h0 (mor F w w') w' st tb W full T := by
  obtain ⟨a, n, c, h1, h2⟩ := h.tat
  refine { h with stat := (hb.block st (lt_of_some h.stat)).trans h.stat, tat := ⟨a, n, c, (hb.block tb (lt_of_some h1)).trans h1, h2.fr (Fr.below hb)⟩, fF := fun x hx => ?_, h0w := Nat.le_trans h.h0w hb.size }
  rcases hx with hx | ⟨hx, hl⟩
  · have := h.fF x hx
    exact ⟨this.1, Nat.lt_of_lt_of_le this.2 hb.size⟩
  · exact ⟨fun e => by have := lt_of_some h1; omega, hl⟩
/-- The table has another row. -/
theorem Cs.set {w1 : World} (h : Cs h0 F w st tb W full T) (hb : Below w.heap.size w w1) {a : Option Addr} {n c : Nat} {T' : List Pr} (hr : Pw (fun x => F x ∨ w.heap.size ≤ x) w1 a n c T') (hf : T'.length ≤ 90000) :
    Cs h0 (mor F w w1) (w1.setCell ⟨tb, 0, none⟩ (.slice a n c)) st tb W full T' ∧ Fr F w (mor F w w1) (w1.setCell ⟨tb, 0, none⟩ (.slice a n c)) ∧ Below h0 w (w1.setCell ⟨tb, 0, none⟩ (.slice a n c)) := by
  have hT := h.below hb
  obtain ⟨a0, n0, c0, h1, h2⟩ := hT.tat
  have hsz : (w1.setCell ⟨tb, 0, none⟩ (.slice a n c)).heap.size = w1.heap.size := by simp
  have hoth : ∀ k, k ≠ tb → (w1.setCell ⟨tb, 0, none⟩ (.slice a n c)).heap[k]? = w1.heap[k]? := fun k hk => Below.heap_setCell _ _ _ _ hk
  have hf2 : Fr (mor F w w1) w1 (mor F w w1) (w1.setCell ⟨tb, 0, none⟩ (.slice a n c)) := ⟨by omega, fun _ h => h, fun x hx _ => hoth x (hT.fF x hx).1⟩
  refine ⟨{ hT with stat := (hoth st hT.ne).trans hT.stat, tat := ⟨a, n, c, ?_, Pw.fr (Rw.mono hr fun x hx hl => ?_) hf2⟩, fF := fun x hx => by have := hT.fF x hx; exact ⟨this.1, by omega⟩, h0w := by rw [hsz]; exact hT.h0w, few := hf }, (Fr.below hb).trans hf2, (hb.mono h.h0w).setCell h.h0t _⟩
  · rw [heap_setCell_same _ _ _ _ _ _ h1]
    rfl
  · rcases hx with hx | hx
    · exact .inl hx
    · exact .inr ⟨hx, hl⟩
set_option maxRecDepth 100000 in
set_option maxHeartbeats 1000000 in
theorem tget_any (h : Cs h0 F w st tb W full T) (k : ByteArray) : Calls Tryd.prog 26 #[.pointer (some ⟨tb, 0, none⟩), .string k] w fun e w' => e = .returned (.tuple #[.string ((getT T k).getD ByteArray.empty), .bool (isT T k)]) ∧ Below w.heap.size w w' := by
  obtain ⟨a, n, c, h1, h2⟩ := h.tat
  have c0 : w.cell? ⟨tb, 0, none⟩ = some (.slice a n c) := by rw [cell_of_row _ _ _ _ _ _ h1]; rfl
  have HG := rget_any h2 k
  obtain ⟨v, hv⟩ : ∃ v, (getT T k).getD ByteArray.empty = v := ⟨_, rfl⟩
  obtain ⟨it, hit⟩ : ∃ it, isT T k = it := ⟨_, rfl⟩
  rw [hv, hit] at HG ⊢
  clear h h1 h2 hv hit
  go_enter Tryd.func26, Tryd.ntmps26
  go_wp2_with fail
  refine HG.mono ?_
  rintro e V ⟨rfl, hb⟩
  have HB : Hid (Below w.heap.size w V) := hb
  clear HG hb c0
  go_wp2
  refine bodyPost_ret (v := .tuple #[.string v, .bool it]) ?_ rfl ⟨rfl, HB.out⟩
  simp [results, go_sem]
set_option maxRecDepth 100000 in
set_option maxHeartbeats 1000000 in
theorem trange_any (h : Cs h0 F w st tb W full T) (f t : ByteArray) (mo : Int) : Calls Tryd.prog 94 #[.pointer (some ⟨tb, 0, none⟩), .string f, .string t, .int .i64 mo] w fun e w' => ∃ (ra : Option Addr) (rn rc : Nat), e = .returned (.slice ra rn rc) ∧ Pw (fun _ => True) w' ra rn rc (rangeT T f t mo) ∧ rn ≤ 90000 ∧ Below w.heap.size w w' := by
  obtain ⟨a, n, c, h1, h2⟩ := h.tat
  have c0 : w.cell? ⟨tb, 0, none⟩ = some (.slice a n c) := by rw [cell_of_row _ _ _ _ _ _ h1]; rfl
  have hl := h2.len
  have hfew := h.few
  have HG := rrange_any h2 (by omega) f t mo
  have HL : Hid (T.length ≤ 90000) := hfew
  clear h h1 h2
  go_enter Tryd.func94, Tryd.ntmps94
  go_wp2_with fail
  refine HG.mono ?_
  rintro e V ⟨ra, rn, rc, rfl, ho, hb⟩
  have HP : Hid (Pw (fun _ => True) V ra rn rc (rangeT T f t mo)) := Rw.own ho (fun _ _ => trivial)
  have HN : Hid (rn ≤ 90000) := by
    show rn ≤ 90000
    rw [← HP.out.len, range_mid, List.length_take]
    have := mid_len T f t
    have := HL.out
    omega
  have HB : Hid (Below w.heap.size w V) := hb
  clear HG hb c0 ho
  go_wp2
  go_ret
  exact ⟨ra, rn, rc, rfl, HP.out, HN.out, HB.out⟩
/-- Does a table have room for a key? -/
def roomT (T : List Pr) (full : Int) (k : ByteArray) : Bool := isT T k || decide (full < 0) || decide ((T.length : Int) < full)
/-- What the table's Put leaves. -/
def TpTo (h0 : Nat) (F : Nat → Prop) (w : World) (st tb W : Nat) (full : Int) (T : List Pr) (k v : ByteArray) (e : Ending) (w' : World) : Prop :=
  ∃ F', (if roomT T full k then e = .returned (.int .i64 0) ∧ Cs h0 F' w' st tb W full (putT T k v) else e = .returned (.int .i64 5) ∧ Cs h0 F' w' st tb W full T) ∧ Fr F w F' w' ∧ Below h0 w w'
theorem put_len (T : List Pr) (k v : ByteArray) : (putT T k v).length ≤ T.length + 1 := by
  unfold putT
  have e := congrArg List.length (low_high T k)
  rw [List.length_append] at e ⊢
  have : (restT T k).length ≤ (highT T k).length := by
    unfold restT
    split
    · simp
    · exact Nat.le_refl _
  simp only [List.length_cons]
  omega
theorem drop_len (T : List Pr) (k : ByteArray) : (dropT T k).length ≤ T.length := by
  unfold dropT
  have e := congrArg List.length (low_high T k)
  rw [List.length_append] at e ⊢
  have : (restT T k).length ≤ (highT T k).length := by
    unfold restT
    split
    · simp
    · exact Nat.le_refl _
  omega
set_option maxRecDepth 100000 in
set_option maxHeartbeats 2000000 in
theorem tput_any (h : Cs h0 F w st tb W full T) (hlt : T.length < 90000) (k v : ByteArray) : Calls Tryd.prog 25 #[.pointer (some ⟨tb, 0, none⟩), .string k, .string v] w fun e w' => TpTo h0 F w st tb W full T k v e w' := by
  obtain ⟨a, n, c, h1, h2⟩ := h.tat
  have c0 : w.cell? ⟨tb, 0, none⟩ = some (.slice a n c) := by rw [cell_of_row _ _ _ _ _ _ h1]; rfl
  have c1 : w.cell? ⟨tb, 1, none⟩ = some (.int .i64 full) := by rw [cell_of_row _ _ _ _ _ _ h1]; rfl
  have HG := rget_any h2 k
  have hl := h2.len
  have HCS : Hid (Cs h0 F w st tb W full T ∧ T.length < 90000) := ⟨h, hlt⟩
  have HT1 : Hid (w.heap[tb]? = some (.cells #[.slice a n c, .int .i64 full] 30 (0, 0)) ∧ Pw F w a n c T) := ⟨h1, h2⟩
  obtain ⟨gv, hgv⟩ : ∃ gv, (getT T k).getD ByteArray.empty = gv := ⟨_, rfl⟩
  obtain ⟨it, hit⟩ : ∃ it, isT T k = it := ⟨_, rfl⟩
  rw [hgv, hit] at HG
  have HR : Hid (roomT T full k = (it || decide (full < 0) || decide ((n : Int) < full))) := by show _ = _; unfold roomT; rw [hit, hl]
  have htl : tb < w.heap.size := lt_of_some h1
  clear h h1 h2 hgv hit hlt
  go_enter Tryd.func25, Tryd.ntmps25
  go_wp2_with fail
  refine HG.mono ?_
  rintro e V ⟨rfl, hb⟩
  have d0 : V.cell? ⟨tb, 0, none⟩ = some (.slice a n c) := by rw [hb.cell htl]; exact c0
  have d1 : V.cell? ⟨tb, 1, none⟩ = some (.int .i64 full) := by rw [hb.cell htl]; exact c1
  have HB : Hid (Below w.heap.size w V) := hb
  clear HG hb c0 c1
  have hcase : (it = true ∨ full < 0) ∨ (it = false ∧ ¬ full < 0 ∧ (n : Int) < full) ∨ (it = false ∧ ¬ full < 0 ∧ ¬ (n : Int) < full) := by
    cases it with
    | true => exact .inl (.inl rfl)
    | false =>
      by_cases h1 : full < 0
      · exact .inl (.inr h1)
      · by_cases h2 : (n : Int) < full
        · exact .inr (.inl ⟨rfl, h1, h2⟩)
        · exact .inr (.inr ⟨rfl, h1, h2⟩)
  have HPUT : Hid (∀ U, Below V.heap.size V U → Calls Tryd.prog 43 #[.slice a n c, .string k, .string v] U fun e w' => ∃ (ra : Option Addr) (rn rc : Nat), e = .returned (.slice ra rn rc) ∧ Pw (fun x => F x ∨ w.heap.size ≤ x) w' ra rn rc (putT T k v) ∧ Below w.heap.size w w') := fun U hU => by
    have hwU : Below w.heap.size w U := HB.out.trans (hU.mono HB.out.size)
    refine (rput_any (HT1.out.2.below hwU) (by have := HCS.out.2; omega) k v).mono ?_
    rintro e w' ⟨ra, rn, rc, rfl, ho, hb'⟩
    exact ⟨ra, rn, rc, rfl, Rw.own ho (fun x hx => .inr (Nat.le_trans hwU.size hx)), hwU.trans (hb'.mono hwU.size)⟩
  rcases hcase with hc | ⟨hc1, hc2, hc3⟩ | ⟨hc1, hc2, hc3⟩
  · have HRT : Hid (roomT T full k = true) := by show _ = _; rw [HR.out]; rcases hc with e | e <;> simp [e]
    cases it with
    | true =>
      clear hc
      go_wp2
      go_quiet (fail)
      go_wp2_with fail
      refine (HPUT.out _ (below_drewN (Below.refl _ _) _)).mono ?_
      rintro e U ⟨ra, rn, rc, rfl, hp, hbU⟩
      have hrow := (hbU.block tb htl).trans HT1.out.1
      have e0 : U.cell? ⟨tb, 0, none⟩ = some (.slice a n c) := by rw [cell_of_row _ _ _ _ _ _ hrow]; rfl
      have hfr := frozen_of_row U tb 0 _ _ hrow
      have HE : Hid (Cs h0 (mor F w U) (U.setCell ⟨tb, 0, none⟩ (.slice ra rn rc)) st tb W full (putT T k v) ∧ Fr F w (mor F w U) (U.setCell ⟨tb, 0, none⟩ (.slice ra rn rc)) ∧ Below h0 w (U.setCell ⟨tb, 0, none⟩ (.slice ra rn rc))) := HCS.out.1.set hbU hp (by have := put_len T k v; have := HCS.out.2; omega)
      clear hp hbU hrow HPUT d0 d1
      go_wp2
      go_ret
      refine ⟨_, ?_, HE.out.2.1, HE.out.2.2⟩
      rw [HRT.out]
      exact ⟨rfl, HE.out.1⟩
    | false =>
      have k1 : decide ((0 : Int) ≤ full) = false := decide_eq_false (by rcases hc with e | e; (· cases e); (· omega))
      clear hc
      go_wp2
      go_quiet (fail)
      go_wp2_with fail
      refine (HPUT.out _ (below_drewN (Below.refl _ _) _)).mono ?_
      rintro e U ⟨ra, rn, rc, rfl, hp, hbU⟩
      have hrow := (hbU.block tb htl).trans HT1.out.1
      have e0 : U.cell? ⟨tb, 0, none⟩ = some (.slice a n c) := by rw [cell_of_row _ _ _ _ _ _ hrow]; rfl
      have hfr := frozen_of_row U tb 0 _ _ hrow
      have HE : Hid (Cs h0 (mor F w U) (U.setCell ⟨tb, 0, none⟩ (.slice ra rn rc)) st tb W full (putT T k v) ∧ Fr F w (mor F w U) (U.setCell ⟨tb, 0, none⟩ (.slice ra rn rc)) ∧ Below h0 w (U.setCell ⟨tb, 0, none⟩ (.slice ra rn rc))) := HCS.out.1.set hbU hp (by have := put_len T k v; have := HCS.out.2; omega)
      clear hp hbU hrow HPUT d0 d1
      go_wp2
      go_ret
      refine ⟨_, ?_, HE.out.2.1, HE.out.2.2⟩
      rw [HRT.out]
      exact ⟨rfl, HE.out.1⟩
  · have HRT : Hid (roomT T full k = true) := by show _ = _; rw [HR.out]; simp [hc3]
    subst hc1
    have k1 : decide ((0 : Int) ≤ full) = true := decide_eq_true (by omega)
    have k2 : decide (full ≤ (n : Int)) = false := decide_eq_false (by omega)
    clear hc2 hc3
    go_wp2
    go_quiet (fail)
    go_wp2_with fail
    refine (HPUT.out _ (below_drewN (Below.refl _ _) _)).mono ?_
    rintro e U ⟨ra, rn, rc, rfl, hp, hbU⟩
    have hrow := (hbU.block tb htl).trans HT1.out.1
    have e0 : U.cell? ⟨tb, 0, none⟩ = some (.slice a n c) := by rw [cell_of_row _ _ _ _ _ _ hrow]; rfl
    have hfr := frozen_of_row U tb 0 _ _ hrow
    have HE : Hid (Cs h0 (mor F w U) (U.setCell ⟨tb, 0, none⟩ (.slice ra rn rc)) st tb W full (putT T k v) ∧ Fr F w (mor F w U) (U.setCell ⟨tb, 0, none⟩ (.slice ra rn rc)) ∧ Below h0 w (U.setCell ⟨tb, 0, none⟩ (.slice ra rn rc))) := HCS.out.1.set hbU hp (by have := put_len T k v; have := HCS.out.2; omega)
    clear hp hbU hrow HPUT d0 d1
    go_wp2
    go_ret
    refine ⟨_, ?_, HE.out.2.1, HE.out.2.2⟩
    rw [HRT.out]
    exact ⟨rfl, HE.out.1⟩
  · have HRT : Hid (roomT T full k = false) := by show _ = _; rw [HR.out]; simp [hc1, hc2, hc3]
    subst hc1
    have k1 : decide ((0 : Int) ≤ full) = true := decide_eq_true (by omega)
    have k2 : decide (full ≤ (n : Int)) = true := decide_eq_true (by omega)
    clear hc2 hc3 HPUT
    go_wp2
    go_quiet (fail)
    rename_i nq
    have hbq : Below w.heap.size w (V.drewN nq) := below_drewN HB.out nq
    have HE : Hid (Cs h0 (mor F w (V.drewN nq)) (V.drewN nq) st tb W full T ∧ Fr F w (mor F w (V.drewN nq)) (V.drewN nq) ∧ Below h0 w (V.drewN nq)) := ⟨HCS.out.1.below hbq, Fr.below hbq, hbq.mono HCS.out.1.h0w⟩
    clear hbq
    go_wp2
    go_ret
    refine ⟨_, ?_, HE.out.2.1, HE.out.2.2⟩
    rw [HRT.out]
    exact ⟨rfl, HE.out.1⟩
/-- What the table's Drop leaves. -/
def TdTo (h0 : Nat) (F : Nat → Prop) (w : World) (st tb W : Nat) (full : Int) (T : List Pr) (k : ByteArray) (e : Ending) (w' : World) : Prop :=
  ∃ F', e = .returned (.bool (isT T k)) ∧ Cs h0 F' w' st tb W full (dropT T k) ∧ Fr F w F' w' ∧ Below h0 w w'
set_option maxRecDepth 100000 in
set_option maxHeartbeats 2000000 in
theorem tdrop_any (h : Cs h0 F w st tb W full T) (k : ByteArray) : Calls Tryd.prog 93 #[.pointer (some ⟨tb, 0, none⟩), .string k] w fun e w' => TdTo h0 F w st tb W full T k e w' := by
  obtain ⟨a, n, c, h1, h2⟩ := h.tat
  have c0 : w.cell? ⟨tb, 0, none⟩ = some (.slice a n c) := by rw [cell_of_row _ _ _ _ _ _ h1]; rfl
  have hl := h2.len
  have hfew := h.few
  have HD : Calls Tryd.prog 95 #[.slice a n c, .string k] w fun e w' => ∃ (ra : Option Addr) (rn rc : Nat), e = .returned (.tuple #[.slice ra rn rc, .bool (isT T k)]) ∧ Pw (fun x => F x ∨ w.heap.size ≤ x) w' ra rn rc (dropT T k) ∧ Below w.heap.size w w' := by
    refine (rdrop_any h2 (by omega) k).mono ?_
    rintro e w' ⟨⟨hi, rfl⟩ | ⟨hi, ra, rn, rc, rfl, ho⟩, hb⟩
    · refine ⟨a, n, c, by rw [hi], ?_, hb⟩
      rw [dropT_none hi]
      exact Rw.mono (h2.below hb) (fun x hx _ => .inl hx)
    · exact ⟨ra, rn, rc, by rw [hi], Rw.own ho (fun x hx => .inr hx), hb⟩
  have HCS : Hid (Cs h0 F w st tb W full T) := h
  have HT1 : Hid (w.heap[tb]? = some (.cells #[.slice a n c, .int .i64 full] 30 (0, 0))) := h1
  have htl : tb < w.heap.size := lt_of_some h1
  obtain ⟨it, hit⟩ : ∃ it, isT T k = it := ⟨_, rfl⟩
  have HIT : Hid (isT T k = it) := hit
  rw [hit] at HD
  clear h h1 h2 hit
  go_enter Tryd.func93, Tryd.ntmps93
  go_wp2_with fail
  refine HD.mono ?_
  rintro e U ⟨ra, rn, rc, rfl, hp, hbU⟩
  have hrow := (hbU.block tb htl).trans HT1.out
  have e0 : U.cell? ⟨tb, 0, none⟩ = some (.slice a n c) := by rw [cell_of_row _ _ _ _ _ _ hrow]; rfl
  have hfr := frozen_of_row U tb 0 _ _ hrow
  have HE : Hid (Cs h0 (mor F w U) (U.setCell ⟨tb, 0, none⟩ (.slice ra rn rc)) st tb W full (dropT T k) ∧ Fr F w (mor F w U) (U.setCell ⟨tb, 0, none⟩ (.slice ra rn rc)) ∧ Below h0 w (U.setCell ⟨tb, 0, none⟩ (.slice ra rn rc))) := HCS.out.set hbU hp (by have := drop_len T k; omega)
  clear hp hbU hrow HD c0
  go_wp2
  go_ret
  exact ⟨_, by rw [HIT.out]; rfl, HE.out.1, HE.out.2.1, HE.out.2.2⟩
end
end Go.Proofs.YtjpkngbjjgimjaaDoor
