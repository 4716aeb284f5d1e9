/- What the laws over steps want: steps that came in, pages that were allocated. -/
import Derived.Test.YtdgffocmdkadpaaGreatRW
namespace Go.Proofs.YtdgffocmdkadpaaGreat
open Go.RowKit Go.Shelf Pg
theorem Os.load {w : World} {a : Option Addr} {len cap : Nat} {l : List OV} (h : Os w a len cap l) (i : Nat) (hi : i < len) : ∃ b o, a = some ⟨b, o, none⟩ ∧ (∀ hl : i < l.length, l[i].fill < 256) ∧ ∀ hl : i < l.length, (loadVar 57 ⟨b, o + i * 5, none⟩).run Tryz.prog w = .ok l[i].agg w := by
  obtain ⟨h1, h2, h3, h4⟩ := h
  obtain ⟨b, o, e, hb, hc⟩ := h4 (by omega)
  refine ⟨b, o, e, fun hl => (hc i hl).2.2.2.2.2.2.2.2.2, fun hl => ?_⟩
  obtain ⟨c0, c1, c2, c3, c4, _⟩ := hc i hl
  exact load_cs (P := Tryz.prog) w b (o + i * 5) 57 _ l[i].cells Tryz.underlying57 rfl (by kernel_rfl) (fun j v hv => by
    have hj : j < 5 := (List.getElem?_eq_some_iff.1 hv).1
    match j, hj with
    | 0, _ => rw [← hv]; exact c0
    | 1, _ => rw [← hv]; exact c1
    | 2, _ => rw [← hv]; exact c2
    | 3, _ => rw [← hv]; exact c3
    | 4, _ => rw [← hv]; exact c4)
section
variable {h0 : Nat} {F : Nat → Prop} {w w' : World} {S : Nat → Prop} {g : Nat} {D : Dk} {pb jb n : Nat} {X : Px}
/-- What lies in F may be turned, and more may be made. -/
theorem Pgr.updF (h : Pgr h0 F w S g D pb jb n X) (hu : Upd F w w') : Pgr h0 (mor F w w') w' S g D pb jb n X := by
  obtain ⟨hok, kb, kc, mb, sa, sc, ss, hP⟩ := h
  have hl := hP.lt
  refine ⟨hok, kb, kc, mb, sa, sc, ss, hP.keep (hP.disk.keep fun x hx => hu.block x (hP.disk.bd x hx) (fun e => (hP.fF x e).1 hx)) ((hu.block jb hP.jat.lt (fun e => (hP.fF jb e).2.2.1 rfl)).trans hP.jat) (fun x hx => hu.block x (hl x hx) (fun e => (hP.fF x e).2.1 hx)) hP.h0S hP.sj (fun x hx => (hP.ap x hx).1) (fun x hx => ?_) hu.size⟩
  rcases hx with hx | ⟨h1, h2⟩
  · obtain ⟨k1, k2, k3, k4⟩ := hP.fF x hx
    exact ⟨k1, k2, k3, Nat.lt_of_lt_of_le k4 hu.size⟩
  · refine ⟨fun hs => ?_, fun ho => ?_, fun e => ?_, h2⟩
    · have := hP.disk.bd x hs; omega
    · have := hl x ho; omega
    · have := hP.jat.lt; omega
end
theorem addN_own4 (w : World) {base n c x b : Nat} {a : Option Addr} {l : List Nat} (h : w.ownsRow base 3 1 (.slice a n c) n (intsV l)) (hr : w.heap[b]? = some (.cells #[.int .i64 (x : Int)] 3 (0, 0))) (hn : n + 1 ≤ 1000000) (hb : base ≤ w.heap.size) :
    ∃ a' c' w', (∀ ty, (Builtin.append_ #[60, 60] ty #[.slice a n c, .slice (some ⟨b, 0, none⟩) 1 1]).run Tryz.prog w = .ok (.slice a' (n + 1) c') w') ∧ w'.ownsRow base 3 1 (.slice a' (n + 1) c') (n + 1) (intsV (l ++ [x])) ∧ w.grownBy w' (ob a) ∧ (ob a' = ob a ∨ ob a' = some w.heap.size) := by
  obtain ⟨i, hi, hz, hs, hbb⟩ := info_of infoI
  have h2 : Rw (fun _ => True) w 3 1 (some ⟨b, 0, none⟩) 1 1 [.int .i64 (x : Int)] := by
    refine ⟨rfl, Nat.le_refl _, by unfold maxLen; omega, fun _ => ⟨b, 0, rfl, lt_of_some hr, trivial, fun j u hu => ?_⟩⟩
    rw [Nat.zero_add, cell_of_row _ b _ _ _ _ hr]
    simpa using hu
  obtain ⟨a', c', w', k1, k2, k3, k4⟩ := app_own w 60 3 i _ 1 8 Tryz.underlying60 hi hz hs hbb rfl (by omega) h h2 (fun u hu => by obtain rfl := List.mem_singleton.1 hu; rfl) (by omega) (by omega) hb
  refine ⟨a', c', w', k1, ?_, k3, k4⟩
  have e : intsV (l ++ [x]) = intsV l ++ [.int .i64 (x : Int)] := by simp [intsV]
  rw [e]
  exact k2
/-- X0 with the pages l allocated, one after the other. -/
structure Al (n : Nat) (X0 X : Px) (l : List Nat) : Prop where
  has : ∀ j, X.now.h.has j = (X0.now.h.has j || decide (j ∈ l))
  nw : ∀ x ∈ l, 1 ≤ x ∧ x < n ∧ X0.now.h.has x = false
  nd : l.Nodup
  root : ∀ k, X.now.h.root k = X0.now.h.root k
  cnt : X.free + l.length = X0.free
theorem Al.new (n : Nat) (X : Px) : Al n X X [] := ⟨fun j => (by simp), fun x hx => (by cases hx), List.nodup_nil, fun _ => rfl, rfl⟩
section
variable {n : Nat} {X0 X : Px} {l : List Nat}
theorem free_pos (hok : X.Ok n) (h : 0 < X.free) : ¬ ∀ j, j < n → X.now.h.has j = true := fun hu => by
  have : X.now.h.u.count false = 0 := by
    rw [List.count_eq_zero]
    intro hm
    obtain ⟨j, hj, e⟩ := List.getElem_of_mem hm
    have := hu j (by rw [← hok.now.h.len]; exact hj)
    unfold Hd.has at this
    rw [List.getD_eq_getElem?_getD, List.getElem?_eq_getElem hj] at this
    rw [e] at this
    cases this
  unfold Px.free at h
  omega
theorem free_zero (hok : X.Ok n) (h : X.free = 0) : ∀ j, j < n → X.now.h.has j = true := fun j hj => by
  unfold Px.free at h
  rw [List.count_eq_zero] at h
  have hl : j < X.now.h.u.length := by rw [hok.now.h.len]; exact hj
  unfold Hd.has
  rw [List.getD_eq_getElem?_getD, List.getElem?_eq_getElem hl]
  show X.now.h.u[j] = true
  cases hb : X.now.h.u[j] with
  | true => rfl
  | false => exact absurd (by rw [← hb]; exact List.getElem_mem hl) h
theorem alc_has (hok : X.Ok n) (i j : Nat) (hi : i < n) : (X.alc i).now.h.has j = if j = i then true else X.now.h.has j := by
  show (X.now.h.u.set i true).getD j false = _
  rw [Pg.getD_set _ _ _ _ (by rw [hok.now.h.len]; exact hi)]
  rfl
theorem alc_free (hok : X.Ok n) (i : Nat) (hi : i < n) (hf : X.now.h.has i = false) : (X.alc i).free + 1 = X.free := by
  have := count_set X.now.h.u i true (by rw [hok.now.h.len]; exact hi)
  have hf : X.now.h.u.getD i false = false := hf
  rw [hf] at this
  unfold Px.free
  show (X.now.h.u.set i true).count false + 1 = _
  simpa using this
theorem Al.add (h : Al n X0 X l) (hok : X.Ok n) (i : Nat) (h1 : 1 ≤ i) (hi : i < n) (hf : X.now.h.has i = false) : Al n X0 (X.alc i) (l ++ [i]) ∧ i ∉ l := by
  have hx := h.has i
  rw [hf] at hx
  have hx2 : X0.now.h.has i = false ∧ i ∉ l := by
    cases he : X0.now.h.has i with
    | true => rw [he] at hx; simp at hx
    | false => rw [he] at hx; simp at hx; exact ⟨rfl, hx⟩
  refine ⟨⟨fun j => ?_, fun x hx => ?_, ?_, fun k => h.root k, ?_⟩, hx2.2⟩
  · rw [alc_has hok i j hi]
    by_cases e : j = i
    · subst e; simp
    · rw [if_neg e, h.has j]; simp [e]
  · rcases List.mem_append.1 hx with hx | hx
    · exact h.nw x hx
    · obtain rfl := List.mem_singleton.1 hx; exact ⟨h1, hi, hx2.1⟩
  · rw [List.nodup_append]
    refine ⟨h.nd, by simp, fun a ha b hb => ?_⟩
    obtain rfl := List.mem_singleton.1 hb
    exact fun e => hx2.2 (by rw [← e]; exact ha)
  · have := alc_free hok i hi hf
    have := h.cnt
    rw [List.length_append]
    show _ + (l.length + 1) = _
    omega
/-- The last page that was allocated is below the next one. -/
theorem low_rises (i : Nat) (hf : X.now.h.has i = false) (hlow : ∀ x ∈ l, ∀ j, j ≤ x → X.now.h.has j = true) : ∀ x ∈ l, x < i := fun x hx => by
  apply Classical.byContradiction
  intro hn
  have := hlow x hx i (by omega)
  rw [hf] at this
  cases this
theorem alc_read (hok : X.Ok n) {D : Dk} (i : Nat) (h1 : 1 ≤ i) (hi : i < n) : (X.alc i).read n D (i : Int) = zeroS ∧ (X.alc i).why n (i : Int) = 0 := by
  have hh : (X.alc i).now.h.has i = true := by rw [alc_has hok i i hi, if_pos rfl]
  refine ⟨read_some h1 hi hh ?_, why_of h1 hi hh⟩
  show X.now.m.put i zeroS i = _
  unfold Pm.put
  rw [if_pos rfl]
/-- X0 with the pages l still allocated. -/
structure Gv (n : Nat) (X0 X : Px) (l : List Nat) : Prop where
  has : ∀ j, X.now.h.has j = (X0.now.h.has j || decide (j ∈ l))
  root : ∀ k, X.now.h.root k = X0.now.h.root k
  cnt : X.free + l.length = X0.free
theorem Gv.give {i : Nat} (h : Gv n X0 X (i :: l)) (h0k : X0.Ok n) (hok : X.Ok n) (h1 : 1 ≤ i) (hi : i < n) (hf : X0.now.h.has i = false) (hnd : i ∉ l) : X.gcode n (i : Int) = 0 ∧ X.gput n (i : Int) = X.giv i ∧ Gv n X0 (X.giv i) l ∧ (X.giv i).gcode n (i : Int) = 6 ∧ (X.giv i).gput n (i : Int) = X.giv i := by
  have hh : X.now.h.has i = true := by rw [h.has i]; simp
  have hw := why_of (X := X) h1 hi hh
  have hr : anyRoot X.now.h 4 (i : Int) = false := by
    cases e : anyRoot X.now.h 4 (i : Int) with
    | false => rfl
    | true =>
      obtain ⟨k, hk, he⟩ := (anyRoot_iff _ _ _).1 e
      have h2 := (h0k.now.h.k k hk).2
      rw [← h.root k] at h2
      have : X.now.h.root k = i := by omega
      rw [this, hf] at h2
      cases h2
  have hg : X.gcode n (i : Int) = 0 := by unfold Px.gcode; rw [if_pos hw, hr]; rfl
  have hlen : i < X.now.h.u.length := by rw [hok.now.h.len]; exact hi
  have hhas : ∀ j, (X.giv i).now.h.has j = if j = i then false else X.now.h.has j := fun j => by
    show (X.now.h.u.set i false).getD j false = _
    rw [Pg.getD_set _ _ _ _ hlen]
    rfl
  have hw6 : (X.giv i).why n (i : Int) = 6 := by
    unfold Px.why
    rw [if_neg (by omega), Int.toNat_natCast, hhas i, if_pos rfl]
    rfl
  refine ⟨hg, ?_, ⟨fun j => ?_, fun k => h.root k, ?_⟩, ?_, ?_⟩
  · unfold Px.gput; rw [if_pos hg, Int.toNat_natCast]
  · rw [hhas j]
    by_cases e : j = i
    · subst e; rw [if_pos rfl, hf]; simp [hnd]
    · rw [if_neg e, h.has j]; simp [e]
  · have := count_set X.now.h.u i false hlen
    have hh2 : X.now.h.u.getD i false = true := hh
    rw [hh2] at this
    have hc := h.cnt
    unfold Px.free at hc ⊢
    rw [List.length_cons] at hc
    show (X.now.h.u.set i false).count false + l.length = _
    simp at this
    omega
  · unfold Px.gcode; rw [if_neg (by rw [hw6]; omega), hw6]
  · unfold Px.gput Px.gcode
    rw [if_neg (by rw [if_neg (by rw [hw6]; omega), hw6]; omega)]
end
end Go.Proofs.YtdgffocmdkadpaaGreat
