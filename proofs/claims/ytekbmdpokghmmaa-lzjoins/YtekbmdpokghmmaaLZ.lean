/- Join. -/
import Derived.Test.YtekbmdpokghmmaaLY
namespace Go.Proofs.Ytekbmdpokghmmaa
open Go.RowKit Lz
/-- No token tells of more than stands ahead of it. -/
def Bk : Nat → List Tk → Prop
  | _, [] => True
  | d, t :: ts => t.b ≤ d ∧ Bk (d + t.told) ts
theorem Bk.goes {size : Nat} {ts : List Tk} : ∀ {d : Nat}, (∀ t ∈ ts, t.Ok) → Bk d ts → d + toldL ts ≤ size → Goes size d ts := by
  induction ts with
  | nil => intros; trivial
  | cons t ts ih =>
    intro d h1 h2 h3
    simp only [toldL] at h3
    exact ⟨h1 t List.mem_cons_self, h2.1, by omega, ih (fun u hu => h1 u (List.mem_cons_of_mem _ hu)) h2.2 (by omega)⟩
theorem Bk.app {a b : List Tk} : ∀ {d : Nat}, Bk d (a ++ b) ↔ Bk d a ∧ Bk (d + toldL a) b := by
  induction a with
  | nil => intro d; simp [Bk, toldL]
  | cons t a ih => intro d; simp only [List.cons_append, Bk, ih, toldL, Nat.add_assoc, and_assoc]
theorem told_few {ts : List Tk} (h : ∀ t ∈ ts, t.Ok) : toldL ts ≤ 130 * ts.length := by
  induction ts with
  | nil => exact Nat.le_refl _
  | cons t ts ih =>
    have h1 := (h t List.mem_cons_self).told_le
    have h2 := ih (fun u hu => h u (List.mem_cons_of_mem _ hu))
    simp only [toldL, List.length_cons]
    omega
abbrev tks (l : List RT) : List Tk := l.map RT.tk
def Vd (l : List RT) : Prop := (∀ t ∈ l, t.ok) ∧ Bk 0 (tks l)
theorem tks_ok {l : List RT} (h : ∀ t ∈ l, t.ok) : ∀ t ∈ tks l, t.Ok := by
  intro t ht
  obtain ⟨u, hu, rfl⟩ := List.mem_map.1 ht
  exact (h u hu).tok.1
theorem Vd.take {l : List RT} (h : Vd l) (i : Nat) : Vd (l.take i) := by
  refine ⟨fun t ht => h.1 t (List.mem_of_mem_take ht), ?_⟩
  have h2 := h.2
  rw [← List.take_append_drop i l] at h2
  rw [show tks (l.take i ++ l.drop i) = tks (l.take i) ++ tks (l.drop i) by simp [tks], Bk.app] at h2
  exact h2.1
theorem Vd.snoc {l : List RT} {t : RT} (h : Vd l) (ht : t.ok) (hb : t.tk.b ≤ toldL (tks l)) : Vd (l ++ [t]) := by
  refine ⟨fun u hu => ?_, ?_⟩
  · rcases List.mem_append.1 hu with hu | hu
    · exact h.1 u hu
    · rw [List.mem_singleton.1 hu]; exact ht
  · rw [show tks (l ++ [t]) = tks l ++ [t.tk] by simp [tks], Bk.app]
    exact ⟨h.2, by omega, trivial⟩
theorem Vd.last {l : List RT} {t : RT} (h : Vd (l ++ [t])) : t.ok ∧ t.tk.b ≤ toldL (tks l) := by
  have h2 := h.2
  rw [show tks (l ++ [t]) = tks l ++ [t.tk] by simp [tks], Bk.app] at h2
  exact ⟨h.1 t (by simp), by have := h2.2.1; omega⟩
/-- What Join makes of tokens. -/
def JS (l : List RT) (o : List UInt8) (c : Nat) : Prop :=
  (¬ Vd l ∧ o = [] ∧ c = 1) ∨ (Vd l ∧ 65536 < toldL (tks l) ∧ o = [] ∧ c = 2) ∨ (Vd l ∧ toldL (tks l) ≤ 65536 ∧ o = packL (toldL (tks l)) (tks l) ∧ c = 0)
theorem JS.unique {l : List RT} {o o' : List UInt8} {c c' : Nat} (h : JS l o c) (h' : JS l o' c') : o = o' ∧ c = c' := by
  rcases h with ⟨h1, rfl, rfl⟩ | ⟨h1, h2, rfl, rfl⟩ | ⟨h1, h2, rfl, rfl⟩ <;> rcases h' with ⟨g1, rfl, rfl⟩ | ⟨g1, g2, rfl, rfl⟩ | ⟨g1, g2, rfl, rfl⟩ <;>
  first | exact ⟨rfl, rfl⟩ | exact absurd g1 h1 | exact absurd h1 g1 | omega
def JoTo (w : World) (l : List RT) (e : Ending) (w' : World) : Prop := ∃ o c a cap, JS l o c ∧ e = .returned (.tuple #[.slice a o.length cap, .int .i64 ((c : Nat) : Int)]) ∧ Bs w' a o.length cap o ∧ Below w.heap.size w w'
theorem JoTo.nil {w : World} {l : List RT} {w' : World} {c : Nat} (h : JS l [] c) (hb : Below w.heap.size w w') : JoTo w l (.returned (.tuple #[.slice none 0 0, .int .i64 (c : Int)])) w' := ⟨[], c, none, 0, h, rfl, Bs.nil _, hb⟩
theorem take_next {l : List RT} {i : Nat} {t : RT} (h : l[i]? = some t) : l.take (i + 1) = l.take i ++ [t] := take_snoc h
theorem told_snoc (l : List RT) (t : RT) : toldL (tks (l ++ [t])) = toldL (tks l) + t.tk.told := by
  rw [show tks (l ++ [t]) = tks l ++ [t.tk] by simp [tks], toldL_app, toldL_one]
theorem enc_snoc (l : List RT) (t : RT) : encL (tks (l ++ [t])) = encL (tks l) ++ t.tk.enc := by
  rw [show tks (l ++ [t]) = tks l ++ [t.tk] by simp [tks], encL_app, encL_one]
set_option maxRecDepth 100000 in
set_option maxHeartbeats 8000000 in
theorem join_any {w : World} {a : Option Addr} {n c : Nat} {l : List RT} (h : Rw (fun _ => True) w 51 3 a n c (rtsV l)) (hn : n ≤ 600) (hl : l.length = n) : Calls Try.prog 18 #[.slice a n c] w (JoTo w l) := by
  have H : Hid (Rw (fun _ => True) w 51 3 a n c (rtsV l) ∧ l.length = n) := ⟨h, hl⟩
  have HN : Hid (n ≤ 600) := hn
  clear h hl
  go_enter Try.func18, Try.ntmps18
  go_wp2
  go_loopw [4, 12] (fun v4 v12 wr => ∃ (i sz : Nat), i ≤ n ∧ v12 = .int .i64 (i : Int) ∧ v4 = .int .i64 (sz : Int) ∧ Vd (l.take i) ∧ toldL (tks (l.take i)) = sz ∧ Below w.heap.size w wr) (fun _ v12 _ => n - (intOf v12).toNat)
  case atStart => exact ⟨0, 0, Nat.zero_le _, rfl, rfl, ⟨fun t ht => by simp at ht, trivial⟩, rfl, Below.refl _ _⟩
  case round =>
    obtain ⟨i, sz, hi, rfl, rfl, hvd, hsz, hb⟩ := hrel
    have hsz2 : sz ≤ 78000 := by
      have := told_few (tks_ok hvd.1)
      rw [hsz, List.length_map, List.length_take, H.out.2] at this
      omega
    have HBW : Hid (Below w.heap.size w wr) := hb
    by_cases hlt : i < n
    · have kk : (i : Int) < (n : Int) := by omega
      obtain ⟨t, ht⟩ : ∃ t, l[i]? = some t := ⟨_, List.getElem?_eq_getElem (by rw [H.out.2]; exact hlt)⟩
      obtain ⟨b, o, rfl, hbl, d0, d1, d2⟩ := rt_cells (H.out.1.below hb) ht hlt
      have HI : Hid (l[i]? = some t ∧ Vd (l.take i) ∧ toldL (tks (l.take i)) = sz ∧ i < n ∧ toldL (tks (l.take i)) = sz) := ⟨ht, hvd, hsz, hlt, hsz⟩
      have HOW := fun V => isOwn_any t V
      have HEA := fun V => isEar_any t V
      obtain ⟨S, hS⟩ : ∃ S, strOf t.d = S := ⟨_, rfl⟩
      rw [hS] at HOW HEA d2
      have HOW : Hid (∀ V, Calls Try.prog 30 #[.agg #[.int .i64 t.b, .int .i64 t.s, .string S]] V (BoTo V t.own)) := HOW
      have HEA : Hid (∀ V, Calls Try.prog 31 #[.agg #[.int .i64 t.b, .int .i64 t.s, .string S]] V (BoTo V t.ear)) := HEA
      obtain ⟨C, hC⟩ : ∃ C, wr.heap.size = C := ⟨_, rfl⟩
      obtain ⟨W1, hW1⟩ : ∃ W, wr.alloc (.cells #[.int .i64 t.b, .int .i64 t.s, .string S] 51) = W := ⟨_, rfl⟩
      have hr1 : W1.heap[C]? = some (.cells #[.int .i64 t.b, .int .i64 t.s, .string S] 51 (0, 0)) := by rw [← hW1, ← hC]; exact heap_alloc_new wr _
      have HW1 : Hid (Below w.heap.size w W1 ∧ W1.heap[C]? = some (.cells #[.int .i64 t.b, .int .i64 t.s, .string S] 51 (0, 0))) := ⟨by rw [← hW1]; exact hb.alloc hb.size _, hr1⟩
      have z0 : W1.cell? ⟨C, 0, none⟩ = some (.int .i64 t.b) := by rw [cell_of_row _ _ _ _ _ _ hr1]; rfl
      have z1 : W1.cell? ⟨C, 1, none⟩ = some (.int .i64 t.s) := by rw [cell_of_row _ _ _ _ _ _ hr1]; rfl
      have z2 : W1.cell? ⟨C, 2, none⟩ = some (.string S) := by rw [cell_of_row _ _ _ _ _ _ hr1]; rfl
      clear hr1 hb ht hvd hsz
      go_wp2_with fail
      refine (HOW.out _).mono ?_
      clear hW1 hC z0 z1 z2
      rintro e V2 ⟨r1, rfl, hr1, hV2⟩
      have hrC := (hV2.block _ (lt_of_some HW1.out.2)).trans HW1.out.2
      have HV : Hid (Below w.heap.size w V2) := HW1.out.1.trans (hV2.mono HW1.out.1.size)
      have z0 : V2.cell? ⟨C, 0, none⟩ = some (.int .i64 t.b) := by rw [cell_of_row _ _ _ _ _ _ hrC]; rfl
      have z1 : V2.cell? ⟨C, 1, none⟩ = some (.int .i64 t.s) := by rw [cell_of_row _ _ _ _ _ _ hrC]; rfl
      have z2 : V2.cell? ⟨C, 2, none⟩ = some (.string S) := by rw [cell_of_row _ _ _ _ _ _ hrC]; rfl
      have HC2 : Hid (V2.heap[C]? = some (.cells #[.int .i64 t.b, .int .i64 t.s, .string S] 51 (0, 0))) := hrC
      clear hrC hV2 d0 d1 d2 hbl HOW
      cases r1 with
      | true =>
        have hok : t.ok := .inl (hr1.1 rfl)
        clear hr1
        obtain ⟨h1, h2, h3⟩ := hok.tok
        have hto130 := h1.told_le
        have HTO := fun V => told_any t.tk (by omega) V
        obtain ⟨tb, htb⟩ : ∃ n, t.tk.b = n := ⟨_, rfl⟩
        obtain ⟨tn, htn⟩ : ∃ n, t.tk.s = n := ⟨_, rfl⟩
        obtain ⟨to, hto⟩ : ∃ n, t.tk.told = n := ⟨_, rfl⟩
        have HTO : Hid (∀ V, Calls Try.prog 32 #[.agg #[.int .i64 (tb : Int), .int .i64 (tn : Int), .string S]] V fun e w' => e = .returned (.int .i64 (to : Int)) ∧ Below V.heap.size V w') := by
          show ∀ V, Calls Try.prog 32 #[.agg #[.int .i64 (tb : Int), .int .i64 (tn : Int), .string S]] V _
          intro V
          have := HTO V
          rw [hto] at this
          rw [← htb, ← htn, ← hS]
          exact this
        have HB : Hid (t.tk.b = tb ∧ t.ok ∧ t.tk.told = to) := ⟨htb, hok, hto⟩
        rw [hto] at hto130
        rw [h2, htb] at z0
        rw [h3, htn] at z1
        have wst : IntKind.i64.wrap ((sz : Int) + (to : Int)) = (sz : Int) + (to : Int) := wrapI _ (by omega) (by omega)
        clear hok h1 h2 h3 hto htb htn hS
        by_cases hbk : sz < tb
        · have k5 : (sz : Int) < (tb : Int) := by omega
          have HJ : Hid (JS l [] 1) := .inl ⟨fun hv => by
            have := hv.take (i + 1)
            rw [take_next HI.out.1] at this
            have := this.last.2
            rw [HI.out.2.2.2.2] at this
            have := HB.out.1
            omega, rfl, rfl⟩
          go_wp2
          go_ret2
          exact JoTo.nil HJ.out HV.out
        · have k5 : ¬ (sz : Int) < (tb : Int) := by omega
          go_wp2_with fail
          refine (HTO.out _).mono ?_
          rintro e V4 ⟨rfl, hV4⟩
          have HV4 : Hid (Below w.heap.size w V4) := HV.out.trans (hV4.mono HV.out.size)
          have HVD : Hid (Vd (l.take (i + 1)) ∧ toldL (tks (l.take (i + 1))) = sz + to) := by
            show Vd (l.take (i + 1)) ∧ _
            rw [take_next HI.out.1, told_snoc, HI.out.2.2.2.2, HB.out.2.2]
            exact ⟨HI.out.2.1.snoc HB.out.2.1 (by rw [HI.out.2.2.2.2, HB.out.1]; omega), rfl⟩
          clear hV4
          go_wp2
          exact ⟨⟨i + 1, sz + to, by omega, by go_num, rfl, HVD.out.1, HVD.out.2, HV4.out⟩, by simp [intOf]; omega⟩
      | false =>
        have hno : ¬ t.own := fun h => by have := hr1.2 h; cases this
        have HNOW : Hid (¬ t.own) := hno
        clear hr1 hno
        go_wp2_with fail
        refine (HEA.out _).mono ?_
        rintro e V3 ⟨r2, rfl, hr2, hV3⟩
        have hrC := (hV3.block _ (lt_of_some HC2.out)).trans HC2.out
        have HV3 : Hid (Below w.heap.size w V3) := HV.out.trans (hV3.mono HV.out.size)
        clear z0 z1 z2
        have z0 : V3.cell? ⟨C, 0, none⟩ = some (.int .i64 t.b) := by rw [cell_of_row _ _ _ _ _ _ hrC]; rfl
        have z1 : V3.cell? ⟨C, 1, none⟩ = some (.int .i64 t.s) := by rw [cell_of_row _ _ _ _ _ _ hrC]; rfl
        have z2 : V3.cell? ⟨C, 2, none⟩ = some (.string S) := by rw [cell_of_row _ _ _ _ _ _ hrC]; rfl
        clear hrC hV3
        cases r2 with
        | false =>
          have HJ : Hid (JS l [] 1) := .inl ⟨fun hv => by
            have := hv.take (i + 1)
            rw [take_next HI.out.1] at this
            rcases this.last.1 with h | h
            · exact HNOW.out h
            · exact absurd (hr2.2 h) (by decide), rfl, rfl⟩
          clear hr2 hS
          go_wp2
          go_ret2
          exact JoTo.nil HJ.out HV3.out
        | true =>
          have hok : t.ok := .inr (hr2.1 rfl)
          clear hr2
          obtain ⟨h1, h2, h3⟩ := hok.tok
          have hto130 := h1.told_le
          have HTO := fun V => told_any t.tk (by omega) V
          obtain ⟨tb, htb⟩ : ∃ n, t.tk.b = n := ⟨_, rfl⟩
          obtain ⟨tn, htn⟩ : ∃ n, t.tk.s = n := ⟨_, rfl⟩
          obtain ⟨to, hto⟩ : ∃ n, t.tk.told = n := ⟨_, rfl⟩
          have HTO : Hid (∀ V, Calls Try.prog 32 #[.agg #[.int .i64 (tb : Int), .int .i64 (tn : Int), .string S]] V fun e w' => e = .returned (.int .i64 (to : Int)) ∧ Below V.heap.size V w') := by
            show ∀ V, Calls Try.prog 32 #[.agg #[.int .i64 (tb : Int), .int .i64 (tn : Int), .string S]] V _
            intro V
            have := HTO V
            rw [hto] at this
            rw [← htb, ← htn, ← hS]
            exact this
          have HB : Hid (t.tk.b = tb ∧ t.ok ∧ t.tk.told = to) := ⟨htb, hok, hto⟩
          rw [hto] at hto130
          rw [h2, htb] at z0
          rw [h3, htn] at z1
          have wst : IntKind.i64.wrap ((sz : Int) + (to : Int)) = (sz : Int) + (to : Int) := wrapI _ (by omega) (by omega)
          clear hok h1 h2 h3 hto htb htn hS
          by_cases hbk : sz < tb
          · have k5 : (sz : Int) < (tb : Int) := by omega
            have HJ : Hid (JS l [] 1) := .inl ⟨fun hv => by
              have := hv.take (i + 1)
              rw [take_next HI.out.1] at this
              have := this.last.2
              rw [HI.out.2.2.2.2] at this
              have := HB.out.1
              omega, rfl, rfl⟩
            go_wp2
            go_ret2
            exact JoTo.nil HJ.out HV3.out
          · have k5 : ¬ (sz : Int) < (tb : Int) := by omega
            go_wp2_with fail
            refine (HTO.out _).mono ?_
            rintro e V4 ⟨rfl, hV4⟩
            have HV4 : Hid (Below w.heap.size w V4) := HV3.out.trans (hV4.mono HV3.out.size)
            have HVD : Hid (Vd (l.take (i + 1)) ∧ toldL (tks (l.take (i + 1))) = sz + to) := by
              show Vd (l.take (i + 1)) ∧ _
              rw [take_next HI.out.1, told_snoc, HI.out.2.2.2.2, HB.out.2.2]
              exact ⟨HI.out.2.1.snoc HB.out.2.1 (by rw [HI.out.2.2.2.2, HB.out.1]; omega), rfl⟩
            clear hV4
            go_wp2
            exact ⟨⟨i + 1, sz + to, by omega, by go_num, rfl, HVD.out.1, HVD.out.2, HV4.out⟩, by simp [intOf]; omega⟩
    · have hin : n = i := by omega
      have kk : ¬ (i : Int) < (n : Int) := by omega
      have hlen : l.length ≤ i := by rw [H.out.2]; omega
      rw [List.take_of_length_le hlen] at hvd hsz
      have HV : Hid (Vd l ∧ toldL (tks l) = sz) := ⟨hvd, hsz⟩
      clear hvd hsz hb
      by_cases hbig : 65536 < sz
      · have k5 : (65536 : Int) < (sz : Int) := by omega
        have HJ : Hid (JS l [] 2) := .inr (.inl ⟨HV.out.1, by rw [HV.out.2]; exact hbig, rfl, rfl⟩)
        go_wp2
        go_ret2
        exact JoTo.nil HJ.out HBW.out
      · have k5 : ¬ (65536 : Int) < (sz : Int) := by omega
        obtain ⟨w4, hw4⟩ : ∃ w4, w4 = wr := ⟨_, rfl⟩
        subst hw4
        obtain ⟨P, hP⟩ : ∃ P, (putN sz).length = P := ⟨_, rfl⟩
        have hP3 : P ≤ 3 := by rw [← hP]; exact putN_len3 (by omega)
        have hPU := put_any none 0 0 [] sz w4 (Bs.nil w4) (by omega) (by omega)
        rw [hP, Nat.zero_add, List.nil_append] at hPU
        have HPU : Hid (Calls Try.prog 26 #[.slice none 0 0, .int .u64 (sz : Int)] w4 fun e w' => e = .returned (.slice (some ⟨w4.heap.size, 0, none⟩) P P) ∧ w'.ownsRow w4.heap.size 5 1 (.slice (some ⟨w4.heap.size, 0, none⟩) P P) P (bytesV (putN sz)) ∧ Below w4.heap.size w4 w') := hPU
        have hwu : IntKind.u64.wrap (sz : Int) = (sz : Int) := by rw [IntKind.wrap_u64]; omega
        have HP : Hid ((putN sz).length = P ∧ P ≤ 3) := ⟨hP, hP3⟩
        clear hPU hP
        go_wp2_with fail
        refine HPU.out.mono ?_
        rintro e V5 ⟨rfl, ho5, hb5⟩
        have H5 : Hid (V5.ownsRow w.heap.size 5 1 (.slice (some ⟨w4.heap.size, 0, none⟩) P P) P (bytesV (putN sz)) ∧ Below w.heap.size w V5) := ⟨own_base ho5 HBW.out.size, HBW.out.trans (hb5.mono HBW.out.size)⟩
        clear ho5 hb5 HPU
        go_wp2
        go_loopw [7, 42] (fun v7 v42 wr => ∃ (j : Nat) (a' : Option Addr) (m c' : Nat), j ≤ n ∧ v42 = .int .i64 (j : Int) ∧ v7 = .slice a' m c' ∧ (putN sz ++ encL (tks (l.take j))).length = m ∧ wr.ownsRow w.heap.size 5 1 (.slice a' m c') m (bytesV (putN sz ++ encL (tks (l.take j)))) ∧ Below w.heap.size w wr) (fun _ v42 _ => n - (intOf v42).toNat)
        case atStart =>
          have e : putN sz ++ encL (tks (l.take 0)) = putN sz := by simp [tks, encL]
          exact ⟨0, _, P, P, Nat.zero_le _, rfl, rfl, by rw [e]; exact HP.out.1, by rw [e]; exact H5.out.1, H5.out.2⟩
        case round =>
          obtain ⟨j, a9, m, c9, hj, rfl, rfl, hm, ho, hb⟩ := hrel
          have hm2 : m ≤ 140000 := by
            have h1 := HV.out.1.take j
            have h2 := h1.2.goes (size := 1000000) (tks_ok h1.1) (by
              have := told_few (tks_ok h1.1)
              rw [List.length_map, List.length_take, H.out.2] at this
              have := HN.out
              omega)
            have h3 := encL_le h2
            have h4 := told_few (tks_ok h1.1)
            rw [List.length_append, HP.out.1] at hm
            have h5 : toldL (tks (l.take j)) ≤ sz := by
              have := HV.out.2
              rw [← List.take_append_drop j l, show tks (l.take j ++ l.drop j) = tks (l.take j) ++ tks (l.drop j) by simp [tks], toldL_app] at this
              omega
            have := HP.out.2
            omega
          by_cases hlj : j < n
          · have kj : (j : Int) < (n : Int) := by omega
            obtain ⟨t, ht⟩ : ∃ t, l[j]? = some t := ⟨_, List.getElem?_eq_getElem (by rw [H.out.2]; exact hlj)⟩
            obtain ⟨b, o, rfl, hbl, d0, d1, d2⟩ := rt_cells (H.out.1.below hb) ht hlj
            have hok : t.ok := HV.out.1.1 t (List.mem_of_getElem? ht)
            obtain ⟨h1, h2, h3⟩ := hok.tok
            obtain ⟨C, hC⟩ : ∃ C, wr.heap.size = C := ⟨_, rfl⟩
            obtain ⟨S, hS⟩ : ∃ S, strOf t.d = S := ⟨_, rfl⟩
            rw [hS] at d2
            obtain ⟨W1, hW1⟩ : ∃ W, wr.alloc (.cells #[.int .i64 t.b, .int .i64 t.s, .string S] 51) = W := ⟨_, rfl⟩
            have hr1 : W1.heap[C]? = some (.cells #[.int .i64 t.b, .int .i64 t.s, .string S] 51 (0, 0)) := by rw [← hW1, ← hC]; exact heap_alloc_new wr _
            have hbW : Below wr.heap.size wr W1 := by rw [← hW1]; exact (Below.refl _ wr).alloc (Nat.le_refl _) _
            have hbw1 := hb.trans (hbW.mono hb.size)
            have z0 : W1.cell? ⟨C, 0, none⟩ = some (.int .i64 t.b) := by rw [cell_of_row _ _ _ _ _ _ hr1]; rfl
            have z1 : W1.cell? ⟨C, 1, none⟩ = some (.int .i64 t.s) := by rw [cell_of_row _ _ _ _ _ _ hr1]; rfl
            have z2 : W1.cell? ⟨C, 2, none⟩ = some (.string S) := by rw [cell_of_row _ _ _ _ _ _ hr1]; rfl
            have hoW := own_keep ho (fun k hk => hbW.block k (ho.lt k hk).2)
            have HWT := with_any t.tk h1 hoW (by omega) hbw1.size
            have hdd : strOf t.tk.d = S := hS
            rw [← h2, ← h3, hdd] at HWT
            obtain ⟨q, hq⟩ : ∃ q, m + t.tk.enc.length = q := ⟨_, rfl⟩
            rw [hq] at HWT
            have HWT : Hid (Calls Try.prog 29 #[.slice a9 m c9, .agg #[.int .i64 t.b, .int .i64 t.s, .string S]] W1 (WtTo W1 w.heap.size a9 (putN sz ++ encL (tks (l.take j)) ++ t.tk.enc) q)) := HWT
            have HTE : Hid (putN sz ++ encL (tks (l.take (j + 1))) = putN sz ++ encL (tks (l.take j)) ++ t.tk.enc ∧ (putN sz ++ encL (tks (l.take (j + 1)))).length = q) := by
              have e : putN sz ++ encL (tks (l.take (j + 1))) = putN sz ++ encL (tks (l.take j)) ++ t.tk.enc := by rw [take_next ht, enc_snoc, List.append_assoc]
              have e2 : (putN sz ++ encL (tks (l.take j)) ++ t.tk.enc).length = (putN sz ++ encL (tks (l.take j))).length + t.tk.enc.length := List.length_append
              exact ⟨e, by rw [e, e2, hm]; exact hq⟩
            have HBW1 : Hid (Below w.heap.size w W1 ∧ ∀ k, ob a9 = some k → w.heap.size ≤ k) := ⟨hbw1, fun k hk => (ho.lt k (by rw [ob_slice]; exact hk)).1⟩
            clear ho hb ht hok h1 h2 h3 hS hr1 hbW hbw1 hoW hdd hq hm hbl
            go_wp2_with fail
            refine HWT.out.mono ?_
            rintro e V6 ⟨a6, c6, rfl, ho6, _, hu6⟩
            have H6 : Hid (V6.ownsRow w.heap.size 5 1 (.slice a6 q c6) q (bytesV (putN sz ++ encL (tks (l.take (j + 1))))) ∧ Below w.heap.size w V6) := ⟨by rw [HTE.out.1]; exact ho6, HBW1.out.1.trans (hu6.below HBW1.out.1.size HBW1.out.2)⟩
            clear ho6 hu6
            go_wp2
            exact ⟨⟨j + 1, a6, q, c6, by omega, by go_num, rfl, HTE.out.2, H6.out⟩, by simp [intOf]; omega⟩
          · have hjn : l.length ≤ j := by rw [H.out.2]; omega
            have kj : ¬ (j : Int) < (n : Int) := by omega
            rw [List.take_of_length_le hjn] at ho hm
            have HJ : Hid (JS l (putN sz ++ encL (tks l)) 0 ∧ Bs wr a9 m c9 (putN sz ++ encL (tks l)) ∧ Below w.heap.size w wr ∧ (putN sz ++ encL (tks l)).length = m) := ⟨.inr (.inr ⟨HV.out.1, by rw [HV.out.2]; omega, by unfold packL; rw [HV.out.2], rfl⟩), own_bs ho, hb, hm⟩
            clear ho hb hm
            go_wp2
            go_ret2
            exact ⟨putN sz ++ encL (tks l), 0, a9, c9, HJ.out.1, by rw [HJ.out.2.2.2]; rfl, by rw [HJ.out.2.2.2]; exact HJ.out.2.1, HJ.out.2.2.1⟩
end Go.Proofs.Ytekbmdpokghmmaa
