/- A store beside the document's list, in memory: what one step does to both. -/
import Derived.Test.YtjpkngbjjgimjaaDoorLH
namespace Go.Proofs.YtjpkngbjjgimjaaDoor
open Go.RowKit
section
variable {tb : Nat} {F F' : Nat → Prop} {w w' : World} {st W k : Nat} {T T' : List Pr} {L L' : List Cn} {da ia : Option Addr} {dn dc ni ic : Nat} {ids : List Ix}
structure Pl (tb : Nat) (F : Nat → Prop) (w : World) (st W k : Nat) (T : List Pr) (L : List Cn) (da : Option Addr) (dn dc : Nat) (ia : Option Addr) (ni ic : Nat) (ids : List Ix) : Prop where
  cs : Cs tb F w st tb W (-1) T
  doc : Doc W k T L
  dw : Dw F w da dn dc L
  id : Ids tb F w ia ni ic ids
theorem Pl.below (h : Pl tb F w st W k T L da dn dc ia ni ic ids) (hb : Below w.heap.size w w') : Pl tb (mor F w w') w' st W k T L da dn dc ia ni ic ids :=
  ⟨h.cs.below hb, h.doc, Rw.fr h.dw (Fr.below hb), h.id.fr (Fr.below hb)⟩
theorem Pl.idlt (h : Pl tb F w st W k T L da dn dc ia ni ic ids) (z : Nat) (hz : ob ia = some z) : z < w.heap.size := (h.cs.fF z (h.id.2 z hz).1).2
/-- The document's list is another one now. -/
theorem Pl.dws (h : Pl tb F w st W k T L da dn dc ia ni ic ids) (hb : Below w.heap.size w w') {L' : List Cn} {a : Option Addr} {n c : Nat} (hd : Dw (fun x => F x ∨ w.heap.size ≤ x) w' a n c L') : Cs tb (mor F w w') w' st tb W (-1) T ∧ Dw (mor F w w') w' a n c L' ∧ Ids tb (mor F w w') w' ia ni ic ids :=
  ⟨h.cs.below hb, Rw.mono hd (fun _ hx hl => hx.elim .inl (fun hx => .inr ⟨hx, hl⟩)), h.id.fr (Fr.below hb)⟩
theorem Ids.set2 {a : Option Addr} {n c xb B : Nat} {l : List Ix} (h : Ids B F w a n c l) (hne : ∀ z, ob a = some z → z ≠ xb) (x0 x1 : Value) : Ids B F ((w.setCell ⟨xb, 0, none⟩ x0).setCell ⟨xb, 1, none⟩ x1) a n c l := by
  have e : ∀ z, z ≠ xb → ((w.setCell ⟨xb, 0, none⟩ x0).setCell ⟨xb, 1, none⟩ x1).heap[z]? = w.heap[z]? := fun z hz => (Below.heap_setCell _ _ _ _ hz).trans (Below.heap_setCell _ _ _ _ hz)
  refine ⟨own_keep h.1 (fun z hz => ?_), fun z hz => ?_⟩
  · exact e z (hne z (by rw [← ob_slice]; exact hz))
  · obtain ⟨h1, cur, fr, h2⟩ := h.2 z hz
    exact ⟨h1, cur, fr, (e z (hne z hz)).trans h2⟩
theorem Cs.set2 {h0 xb : Nat} {full : Int} {cs : Array Value} (h : Cs h0 F w st tb W full T) (hr : w.heap[xb]? = some (.cells cs 35 (0, 0))) (x0 x1 : Value) : Cs h0 F ((w.setCell ⟨xb, 0, none⟩ x0).setCell ⟨xb, 1, none⟩ x1) st tb W full T := by
  have e : ∀ z, z ≠ xb → ((w.setCell ⟨xb, 0, none⟩ x0).setCell ⟨xb, 1, none⟩ x1).heap[z]? = w.heap[z]? := fun z hz => (Below.heap_setCell _ _ _ _ hz).trans (Below.heap_setCell _ _ _ _ hz)
  have hty : ∀ (z : Nat) (cur : Array Value) (t : TypeId) (fr : Nat × Nat), w.heap[z]? = some (.cells cur t fr) → t ≠ 35 → z ≠ xb := fun z cur t fr hz ht e => by
    subst e
    rw [hz] at hr
    simp only [Option.some.injEq, Obj.cells.injEq] at hr
    exact ht hr.2.1
  obtain ⟨a, n, c, k1, _⟩ := h.tat
  exact h.other (by simp) (e st (hty st _ _ _ h.stat (by decide))) (e tb (hty tb _ _ _ k1 (by decide))) (fun b cur fr hb => e b (hty b _ _ _ hb (by decide)))
theorem Rw.grow {et sz : Nat} {a : Option Addr} {len cap : Nat} {xs : List Value} {o : Option Nat} (h : Rw F w et sz a len cap xs) (het : et ≠ 35) (hg : w.grownBy w' o) (ho : ∀ z, o = some z → ∃ cur fr, w.heap[z]? = some (.cells cur 35 fr)) : Rw (mor F w w') w' et sz a len cap xs := by
  obtain ⟨h1, h2, h3, h4⟩ := h
  refine ⟨h1, h2, h3, fun h0 => ?_⟩
  obtain ⟨b, oo, rfl, ⟨cur, fr, hb⟩, hG, hc⟩ := h4 h0
  have e : w'.heap[b]? = w.heap[b]? := by
    refine hg.block b (lt_of_some hb) (fun e => ?_)
    obtain ⟨cur', fr', h5⟩ := ho b e.symm
    rw [hb] at h5
    simp only [Option.some.injEq, Obj.cells.injEq] at h5
    exact het h5.2.1
  exact ⟨b, oo, rfl, ⟨cur, fr, e.trans hb⟩, .inl hG, fun j u hu => by rw [World.cell?_of_block (w := w) e]; exact hc j u hu⟩
/-- What the document's side does. -/
def RefTo (F : Nat → Prop) (w : World) (L : List Cn) (er : Int) (e : Ending) (w' : World) : Prop := ∃ (a : Option Addr) (n c : Nat), e = .returned (.tuple #[.slice a n c, .int .i64 er]) ∧ Dw (fun x => F x ∨ w.heap.size ≤ x) w' a n c L ∧ Below w.heap.size w w'
def RefPut (F : Nat → Prop) (w : World) (L : List Cn) (s : ByteArray) (m : Nat) (er : Int) (e : Ending) (w' : World) : Prop := ∃ (a : Option Addr) (n c : Nat), e = .returned (.tuple #[.slice a n c, .agg #[.string s, .int .i64 (m : Int)], .int .i64 er]) ∧ Dw (fun x => F x ∨ w.heap.size ≤ x) w' a n c L ∧ Below w.heap.size w w'
/-- What the store does. -/
def StTo (tb : Nat) (F : Nat → Prop) (w : World) (st W : Nat) (T : List Pr) (v : Value) (e : Ending) (w' : World) : Prop := ∃ F', e = .returned v ∧ Cs tb F' w' st tb W (-1) T ∧ Fr F w F' w' ∧ Below tb w w'
theorem again_both (hdoc : Doc W k T L) (hk : k ≤ 60) (hW : W ≤ 32) (hdn : L.length = dn) (s : ByteArray) (m : Int) : ∃ (L' : List Cn) (T' : List Pr) (er : Int), Doc W (k + 1) T' L' ∧
    (∀ V G, Dw G V da dn dc L → Calls Tryd.prog 15 #[.slice da dn dc, .agg #[.string s, .int .i64 m], .int .i64 1] V fun e w' => RefTo G V L' er e w') ∧
    (∀ V G, Cs tb G V st tb W (-1) T → Calls Tryd.prog 16 #[.pointer (some ⟨st, 0, none⟩), .agg #[.string s, .int .i64 m]] V fun e w' => StTo tb G V st W T' (.int .i64 er) e w') := by
  have hT := hdoc.tb.few
  have hlk := hdoc.look s m
  have hlen := hdoc.len
  cases hat : atF L s m with
  | none =>
    rw [hat] at hlk
    refine ⟨L, T, 6, hdoc.up (by omega) (by omega), fun V G hd => ?_, fun V G hc => ?_⟩
    · refine (change_no hd s m 1 hat).mono ?_
      rintro e w' ⟨rfl, hb⟩
      exact ⟨_, _, _, rfl, Rw.mono (hd.below hb) (fun _ hx _ => .inl hx), hb⟩
    · refine (again_any hc hW (by omega) s m).mono ?_
      intro e w' ht
      rw [hlk] at ht
      exact ⟨_, ht.1, ht.2.choose_spec.1, ht.2.choose_spec.2.1, ht.2.choose_spec.2.2⟩
  | some i =>
    obtain ⟨d, hi, hs, hn⟩ := at_some hat
    rw [hat] at hlk
    simp only [Option.bind_some, hi] at hlk
    have hin := (hdoc.mem d).2 (List.mem_of_getElem? hi)
    have hr := hin.2.2.2.2.1
    refine ⟨withL L i (d.refs + 1), putT T (keyB d.sum d.n) (valB (d.refs + 1) d.data), 0, (hdoc.up (k' := k + 1) (by omega) (by omega)).set hi (by omega) (by omega), fun V G hd => ?_, fun V G hc => ?_⟩
    · refine (change_yes hd (by omega) s m 1 (r := d.refs + 1) hat hi (by omega) ⟨by omega, by omega⟩).mono ?_
      rintro e w' ⟨a, n, c, rfl, hd', hb⟩
      exact ⟨_, _, _, rfl, Rw.mono hd' (fun _ hx _ => .inr hx), hb⟩
    · refine (again_any hc hW (by omega) s m).mono ?_
      intro e w' ht
      rw [hlk] at ht
      unfold AgTo at ht
      simp only at ht
      unfold MoTo at ht
      rw [if_neg (by omega)] at ht
      obtain ⟨F', h1, h2, h3⟩ := ht
      rw [if_pos (by unfold roomT; simp)] at h1
      exact ⟨F', h1.1, h1.2, h2, h3⟩
theorem take_both (hdoc : Doc W k T L) (hk : k ≤ 60) (hW : W ≤ 32) (hdn : L.length = dn) (s : ByteArray) (m : Int) : ∃ (L' : List Cn) (T' : List Pr) (er : Int), Doc W (k + 1) T' L' ∧
    (∀ V G, Dw G V da dn dc L → Calls Tryd.prog 15 #[.slice da dn dc, .agg #[.string s, .int .i64 m], .int .i64 (-1)] V fun e w' => RefTo G V L' er e w') ∧
    (∀ V G, Cs tb G V st tb W (-1) T → Calls Tryd.prog 17 #[.pointer (some ⟨st, 0, none⟩), .agg #[.string s, .int .i64 m]] V fun e w' => StTo tb G V st W T' (.int .i64 er) e w') := by
  have hT := hdoc.tb.few
  have hlk := hdoc.look s m
  have hlen := hdoc.len
  cases hat : atF L s m with
  | none =>
    rw [hat] at hlk
    refine ⟨L, T, 6, hdoc.up (by omega) (by omega), fun V G hd => ?_, fun V G hc => ?_⟩
    · refine (change_no hd s m (-1) hat).mono ?_
      rintro e w' ⟨rfl, hb⟩
      exact ⟨_, _, _, rfl, Rw.mono (hd.below hb) (fun _ hx _ => .inl hx), hb⟩
    · refine (take_any hc hW (by omega) s m).mono ?_
      intro e w' ht
      rw [hlk] at ht
      exact ⟨_, ht.1, ht.2.choose_spec.1, ht.2.choose_spec.2.1, ht.2.choose_spec.2.2⟩
  | some i =>
    obtain ⟨d, hi, hs, hn⟩ := at_some hat
    rw [hat] at hlk
    simp only [Option.bind_some, hi] at hlk
    have hin := (hdoc.mem d).2 (List.mem_of_getElem? hi)
    have hr := hin.2.2.2.2.1
    have hr1 := hin.2.2.2.1
    have hkey : keyB s m.toNat = keyB d.sum d.n := by rw [← hs, ← hn, Int.toNat_natCast]
    by_cases h1 : d.refs = 1
    · refine ⟨withL L i 0, dropT T (keyB d.sum d.n), 0, (hdoc.drop hi).up (by omega) (by omega), fun V G hd => ?_, fun V G hc => ?_⟩
      · refine (change_yes hd (by omega) s m (-1) (r := 0) hat hi (by omega) ⟨by omega, by omega⟩).mono ?_
        rintro e w' ⟨a, n, c, rfl, hd', hb⟩
        exact ⟨_, _, _, rfl, Rw.mono hd' (fun _ hx _ => .inr hx), hb⟩
      · refine (take_any hc hW (by omega) s m).mono ?_
        intro e w' ht
        rw [hlk] at ht
        unfold TkTo at ht
        simp only at ht
        rw [if_pos h1, hkey] at ht
        obtain ⟨he, F', h1, h2, h3⟩ := ht
        exact ⟨F', he, h1, h2, h3⟩
    · refine ⟨withL L i (d.refs - 1), putT T (keyB d.sum d.n) (valB (d.refs - 1) d.data), 0, (hdoc.up (k' := k + 1) (by omega) (by omega)).set hi (by omega) (by omega), fun V G hd => ?_, fun V G hc => ?_⟩
      · refine (change_yes hd (by omega) s m (-1) (r := d.refs - 1) hat hi (by omega) ⟨by omega, by omega⟩).mono ?_
        rintro e w' ⟨a, n, c, rfl, hd', hb⟩
        exact ⟨_, _, _, rfl, Rw.mono hd' (fun _ hx _ => .inr hx), hb⟩
      · refine (take_any hc hW (by omega) s m).mono ?_
        intro e w' ht
        rw [hlk] at ht
        unfold TkTo at ht
        simp only at ht
        rw [if_neg h1] at ht
        obtain ⟨F', h1, h2, h3⟩ := ht
        rw [if_pos (by unfold roomT; simp)] at h1
        exact ⟨F', h1.1, h1.2, h2, h3⟩
theorem put_both (hdoc : Doc W k T L) (hk : k ≤ 60) (hW : W ≤ 32) (hdn : L.length = dn) (data : ByteArray) : ∃ (L' : List Cn) (T' : List Pr) (s : ByteArray) (m : Nat) (er : Int), Doc W (k + 1) T' L' ∧
    (∀ V G, Dw G V da dn dc L → Calls Tryd.prog 13 #[.slice da dn dc, .string data, .int .i64 (W : Int)] V fun e w' => RefPut G V L' s m er e w') ∧
    (∀ V G, Cs tb G V st tb W (-1) T → Laid V → Calls Tryd.prog 14 #[.pointer (some ⟨st, 0, none⟩), .string data] V fun e w' => StTo tb G V st W T' (.tuple #[.agg #[.string s, .int .i64 (m : Int)], .int .i64 er]) e w') := by
  have hT := hdoc.tb.few
  have hlen := hdoc.len
  by_cases hd : 128 < data.size
  · refine ⟨L, T, ⟨#[]⟩, 0, 2, hdoc.up (by omega) (by omega), fun V G hdw => ?_, fun V G hc hL => ?_⟩
    · refine (rput_long data (W : Int) hd).mono ?_
      rintro e w' ⟨rfl, hb⟩
      exact ⟨_, _, _, rfl, Rw.mono (hdw.below hb) (fun _ hx _ => .inl hx), hb⟩
    · refine (putc_any hc hW hL (by omega) data).mono ?_
      rintro e w' ⟨F', h1, h2, hif⟩
      rw [if_neg (fun h => by omega), if_neg (by omega)] at hif
      exact ⟨F', hif.1, hif.2, h1, h2⟩
  · by_cases hno : ∀ c ∈ L, c.data ≠ data
    · obtain ⟨m, hm, hml, hfree, hlow⟩ := hdoc.named hW hno
      refine ⟨L ++ [⟨digW W data, m, 1, data⟩], putT T (keyB (digW W data) m) (valB 1 data), digW W data, m, 0, (hdoc.up (k' := k + 1) (by omega) (by omega)).add (c := ⟨digW W data, m, 1, data⟩) ⟨digW_size W hW data, by show m < 256; omega, Nat.le_refl _, by show 1 ≤ k + 1; omega, by show data.size ≤ 128; omega⟩ (by omega) rfl hno (fun d hd' e => hfree d hd' ?_), fun V G hdw => ?_, fun V G hc hL => ?_⟩
      · exact ⟨(Prod.mk.inj e).1, (Prod.mk.inj e).2⟩
      · refine (rput_new hdw (by omega) data W hW hd hno (by omega) hfree hlow).mono ?_
        rintro e w' ⟨a, n, c, rfl, hd', hb⟩
        exact ⟨_, _, _, rfl, Rw.mono hd' (fun _ hx _ => .inr hx), hb⟩
      · refine (putc_any hc hW hL (by omega) data).mono ?_
        rintro e w' ⟨F', h1, h2, hif⟩
        rw [hm] at hif
        rw [if_pos ⟨by omega, by show m < 256; omega, by show 0 ≠ 4294967295; omega, by unfold roomT; simp⟩] at hif
        exact ⟨F', hif.1, hif.2, h1, h2⟩
    · obtain ⟨c0, hc0, hcd⟩ : ∃ c ∈ L, c.data = data := by
        refine Classical.byContradiction fun hh => hno fun c hc e => hh ⟨c, hc, e⟩
      obtain ⟨i, hi⟩ := List.getElem?_of_mem hc0
      have hin := (hdoc.mem c0).2 hc0
      have hr := hin.2.2.2.2.1
      have hth : There W T data := by
        refine ⟨c0, ?_, hcd⟩
        exact (hdoc.tb.mem (digW_size W hW data) c0).2 ⟨hin.1, hin.2, by rw [hdoc.dig c0 hc0, hcd]⟩
      obtain ⟨o1, o2, o3, o4⟩ := hdoc.tb.old hW hth
      have hnm : namedF W T data = c0 := hdoc.data ((hdoc.mem _).1 ⟨o1, o2⟩) hc0 (by rw [o3, hcd])
      refine ⟨withL L i (c0.refs + 1), putT T (keyB c0.sum c0.n) (valB (c0.refs + 1) c0.data), c0.sum, c0.n, 0, (hdoc.up (k' := k + 1) (by omega) (by omega)).set hi (by omega) (by omega), fun V G hdw => ?_, fun V G hc hL => ?_⟩
      · refine (rput_old hdw (by omega) data (W : Int) hd hi hcd (fun j hj e he hed => ?_) rfl (by omega)).mono ?_
        · have h5 : e = c0 := hdoc.data (List.mem_of_getElem? he) hc0 (by rw [hed, hcd])
          subst h5
          have h6 := (List.getElem?_eq_some_iff.1 he).1
          have h7 := (List.getElem?_inj h6 hdoc.nodup).1 (he.trans hi.symm)
          omega
        · rintro e w' ⟨a, n, c, rfl, hd', hb⟩
          exact ⟨_, _, _, rfl, Rw.mono hd' (fun _ hx _ => .inr hx), hb⟩
      · refine (putc_any hc hW hL (by omega) data).mono ?_
        rintro e w' ⟨F', h1, h2, hif⟩
        rw [hnm] at hif
        rw [if_pos ⟨by omega, hin.2.2.1, by omega, by unfold roomT; simp⟩] at hif
        exact ⟨F', hif.1, hif.2, h1, h2⟩
end
end Go.Proofs.YtjpkngbjjgimjaaDoor
